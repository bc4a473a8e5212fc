/-
  The walks of both Hashes (layer 3): a list's bytes; what they make is new memory, nothing that was there changes.
-/
import Derived.Test.YtcafjmaimohljaaList
import Derived.Test.YtcafjmaimohljaaNumWalk
namespace Go.Proofs.Ytcafjmaimohljaa
open Go.RowKit
set_option linter.unusedVariables false

/-- A list's bytes. -/
def listL (ls : List (List Int)) : List Int := Codec.numL ls.length ++ ls.flatten
def listS (ls : List (List Int)) : ByteArray := if 64 < ls.length then ⟨#[]⟩ else strOfNums (listL ls)
def part (n : Nat) (ls : List (List Int)) (k : Nat) : List Int := Codec.numL n ++ (ls.take k).flatten
theorem part_next (n : Nat) (ls : List (List Int)) (k : Nat) (hk : k < ls.length) : part n ls (k + 1) = part n ls k ++ ls.getD k [] := by
  unfold part; rw [flat_next ls k hk, List.append_assoc]
theorem textNum (n : Nat) : textL (numS n) = Codec.numL n := textL_nums _ (Codec.numL_bytes n)
theorem Got.text {w : World} {B g cap m : Nat} {l : List Int} (h : Got w B g cap l m) : (convert 44 9 (.slice (some ⟨g, 0, none⟩) m cap)).run Try.prog w = .ok (.string (strOfNums l)) w :=
  run_convert_bytes_arg w 44 5 Try.underlying44 Try.underlying5 g 0 m cap l h.1 (fun i hi => by rw [Nat.zero_add]; exact h.cell i hi) 9 Try.underlying9
theorem ret_txt {a b : ByteArray} (h : b = a) : Ending.returned (.string a) = .returned (.string b) := by rw [h]
attribute [local go_sem ↓ high] read_at
set_option maxHeartbeats 1000000 in
set_option maxRecDepth 100000 in
theorem hashes_any (ls : List (List Int)) (hs : hashes ls) (A : Option Addr) (c : Nat) (w : World) (hA : HL w w.heap.size A ls) (hn : ls.length ≤ maxLen) :
    Calls Try.prog 15 #[.slice A ls.length c] w fun e w' => e = .returned (.string (listS ls)) ∧ Below w.heap.size w w' := by
  unfold maxLen at hn
  obtain ⟨n, hN⟩ : ∃ n, Hid (n = ls.length) := ⟨_, Lib.hid rfl⟩
  have HA := Lib.hid hA
  rw [← hN.out] at hn ⊢
  clear hA
  by_cases hbig : 64 < n
  · have hS : Hid (listS ls = ⟨#[]⟩) := Lib.hid (by unfold listS; rw [if_pos (by rw [← hN.out]; exact hbig)])
    have hd : decide (64 < (n : Int)) = true := decide_eq_true (by omega)
    go_enter Try.func15, Try.ntmps15
    go_wp2
    go_ret
    exact ⟨by rw [hS.out]; rfl, Below.refl _ _⟩
  · have hS : Hid (listS ls = strOfNums (part n ls n)) := Lib.hid (by unfold listS part listL; rw [if_neg (by rw [← hN.out]; exact hbig), hN.out, List.take_length])
    have hd : decide (64 < (n : Int)) = false := decide_eq_false (by omega)
    have hn64 : n ≤ 64 := by omega
    have hL0 := Codec.numL_length n (by omega)
    obtain ⟨q, hq⟩ : ∃ q, Hid (q = (Codec.numL n).length) := ⟨_, Lib.hid rfl⟩
    rw [← hq.out] at hL0
    have hc := num_any n (by omega) w
    have hq2 : Hid ((numS n).size = q) := Lib.hid (by rw [hq.out]; unfold numS; rw [strOfNums_size])
    clear hbig
    go_enter Try.func15, Try.ntmps15
    go_wp2_with (go_at_call 11; (with_reducible refine hc.mono ?_); rintro e w1 ⟨rfl, hb⟩; obtain ⟨wb, cap0, hcv, G0, B0⟩ := conv_text w1 (numS n); rw [hq2.out] at hcv)
    have H0 : Hid (Got wb w1.heap.size w1.heap.size cap0 (part n ls 0) q) := Lib.hid (by have := G0.out; rw [textNum, hq2.out] at this; simpa [part] using this)
    have HB : Hid (Below w.heap.size w wb ∧ w.heap.size ≤ w1.heap.size) := Lib.hid ⟨below_new hb B0.out, hb.size⟩
    clear hcv G0 B0 hb
    go_loopw [3, 5, 16] (fun s3 s5 s16 wr => ∃ k g cap m : Nat, k ≤ n ∧ s16 = .int .i64 (k : Int) ∧ s3 = .slice (some ⟨g, 0, none⟩) m cap ∧ m = q + 32 * k ∧ Hid (Got wr w.heap.size g cap (part n ls k) m) ∧ Hid (Below w.heap.size w wr)) (fun _ _ s16 _ => (n - intOf s16).toNat)
    case atStart => exact ⟨0, _, _, _, by omega, rfl, rfl, by omega, Lib.hid (by obtain ⟨a, b, r⟩ := H0.out; exact ⟨a, by have := HB.out.2; omega, r⟩), Lib.hid HB.out.1⟩
    case round =>
      clear H0 HB
      obtain ⟨k, g, cap, m, hk, rfl, rfl, hm, HG, HB⟩ := hrel
      by_cases hlt : k < n
      · obtain ⟨ad, rfl⟩ := HA.out.some k (by rw [← hN.out]; exact hlt)
        have s1 := (HA.out.next HB.out (Nat.le_refl _)).read hs k (by rw [← hN.out]; exact hlt)
        obtain ⟨l, hl⟩ : ∃ l, Hid (l = ls.getD k []) := ⟨_, Lib.hid rfl⟩
        rw [← hl.out] at s1
        have hll : Hid (l.length = 32) := Lib.hid (by rw [hl.out]; exact (hashes_at hs k (by rw [← hN.out]; exact hlt)).1)
        have hmb : m ≤ 3000 := by omega
        have hM := Lib.hid hm
        clear hm
        go_wp2_with (first
          | (refine wpList_store_fresh rfl 27 _ _ rfl (nums .u8 l) rfl rfl 27 _ (sizeHash l hll.out) (by rw [nums_size, hll.out]; rfl) (nums_one _ _) ?_; intro w2 hS2 hb2; have HS2 := Lib.hid hS2; have HB2 := Lib.hid hb2; clear hS2 hb2)
          | (at_builtin; refine wpList_append_got _ rfl (.tmp 20) (.tmp 21) rfl w.heap.size g cap m _ rfl (HG.out.same (HB2.out.block g HG.out.lt)) ?hBase wr.heap.size 32 32 27 l rfl (by omega) hll.out HS2.out (by omega) ?kont))
        case hBase => have := HB.out.size; have := HB2.out.size; omega
        case kont =>
          intro g' cap' w3 G3 B3
          go_wp2
          go_roundw
          case rel =>
            have := hM.out
            exact ⟨k + 1, g', cap', _, by omega, by go_num, rfl, by omega, Lib.hid (by rw [part_next n ls k (by rw [← hN.out]; exact hlt), ← hl.out]; exact G3), Lib.hid ((below_new HB.out HB2.out).trans B3)⟩
          case measure => simp [intOf]; omega
      · have hk9 : Hid (k = n) := Lib.hid (by omega)
        have ht := HG.out.text
        clear hm
        go_wp2
        go_ret
        exact ⟨ret_txt (by rw [hS.out, hk9.out]), HB.out⟩
end Go.Proofs.Ytcafjmaimohljaa
