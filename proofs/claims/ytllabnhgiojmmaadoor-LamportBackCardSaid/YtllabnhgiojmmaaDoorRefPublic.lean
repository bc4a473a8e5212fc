/-
  The walk of the document's Public (layer 8): all public hashes of a key, or none. Conditions: a seed of at most 100000 bytes, a number that fits. What it makes is new memory; nothing that was there changes.
-/
import Derived.Test.YtllabnhgiojmmaaDoorRefSecret
import Derived.Test.YtllabnhgiojmmaaDoorListMem
namespace Go.Proofs.YtllabnhgiojmmaaDoor
open Go.RowKit Go.Great
set_option linter.unusedVariables false
set_option maxRecDepth 100000

/-- What Public and others that hand a list back do. -/
def GivesP (w : World) (ls : List (List Int)) (e : Ending) (w' : World) : Prop :=
  ∃ A c, e = .returned (.slice A ls.length c) ∧ ls.length ≤ c ∧ c ≤ maxLen ∧ HL w' w'.heap.size A ls ∧ Below w.heap.size w w'
attribute [local go_sem ↓ high] read_at write_at
set_option maxHeartbeats 8000000 in
theorem refPublic_some (seed : ByteArray) (hs : seed.size ≤ 100000) (index : Nat) (hi : index ≤ 2147483647) (w : World) :
    Calls Tryd.prog 15 #[.string seed, .int .i64 (index : Int)] w (GivesP w (pubN seed index 512)) := by
  obtain ⟨i0, hi0, hz0, hz1, hz2⟩ := info_parts infoHash
  have d1 : decide ((index : Int) < 0) = false := decide_eq_false (by omega)
  have d2 : decide (2147483647 < (index : Int)) = false := decide_eq_false (by omega)
  have d3 : ¬ 2147483647 < index := by omega
  have d4 : (index : Int) ≤ 2147483647 := by omega
  have d5 : decide (2147483647 < index) = false := decide_eq_false d3
  have SE : Hid (∀ (W : World) (i b : Nat), i ≤ 255 → b ≤ 1 → Calls Tryd.prog 12 #[.string seed, .int .i64 (index : Int), .int .i64 (i : Int), .int .i64 (b : Int)] W fun e w' => e = .returned (.agg (nums .u8 (secL seed index i b))) ∧ Below W.heap.size W w') := Lib.hid fun W i b h1 h2 => by
    have := refSecret_any seed hs (index : Int) (i : Int) (b : Int) (by omega) W
    rwa [secF_ok hi h1 h2] at this
  have H0 : Hid (OwnL w w (.slice none 0 0) 0 (pubN seed index 0)) := Lib.hid (OwnL.start w)
  have hw9 : IntKind.i64.wrap (index : Int) = (index : Int) := by rw [IntKind.wrap_i64]; omega
  clear hs hi
  go_enter Tryd.func15, Tryd.ntmps15
  go_wp2
  go_loopw [5, 6] (fun s5 s6 wr => ∃ (k : Nat) (v : Value), s6 = .int .i64 ((k : Nat) : Int) ∧ v = s5 ∧ k ≤ 256 ∧ Hid (OwnL w wr v (2 * k) (pubN seed index (2 * k)))) (fun _ s6 _ => (256 - intOf s6).toNat)
  case atStart => exact ⟨0, _, rfl, rfl, by omega, H0⟩
  case round =>
    clear H0
    obtain ⟨k, v, rfl, rfl, hk, HO⟩ := hrel
    by_cases hlt : k < 256
    · have hlt2 : (k : Int) < 256 := by omega
      have hwk : IntKind.i64.wrap (k : Int) = (k : Int) := by rw [IntKind.wrap_i64]; omega
      have HO0 : Hid (OwnL w wr v (2 * k + 0) (pubN seed index (2 * k + 0))) := HO
      clear HO
      go_wp2
      go_loopw [5, 7] (fun s5 s7 wr => ∃ (b : Nat) (v : Value), s7 = .int .i64 ((b : Nat) : Int) ∧ v = s5 ∧ b ≤ 2 ∧ Hid (OwnL w wr v (2 * k + b) (pubN seed index (2 * k + b)))) (fun _ s7 _ => (2 - intOf s7).toNat)
      case atStart => exact ⟨0, _, rfl, rfl, by omega, HO0⟩
      case round =>
        clear HO0
        obtain ⟨b, v2, rfl, rfl, hb2, HO⟩ := hrel
        by_cases hb : b < 2
        · have hwb : IntKind.i64.wrap (b : Int) = (b : Int) := by rw [IntKind.wrap_i64]; omega
          obtain ⟨x, hx⟩ : ∃ x, Hid (x = secL seed index k b) := ⟨_, Lib.hid rfl⟩
          obtain ⟨X, hX⟩ : ∃ X, Hid (X = nums .u8 x) := ⟨_, Lib.hid rfl⟩
          have hx32 : Hid (x.length = 32 ∧ bytes x) := Lib.hid (by rw [hx.out]; exact secL_is _ _ _ _)
          have zX : Hid (X.size = 32) := Lib.hid (by rw [hX.out, nums_size]; exact hx32.out.1)
          have oX : Hid (X.all (·.oneCell') = true) := Lib.hid (by rw [hX.out]; exact nums_one _ _)
          obtain ⟨y, hy⟩ : ∃ y, Hid (y = pubH x) := ⟨_, Lib.hid rfl⟩
          obtain ⟨C, hC⟩ : ∃ C, Hid (C = nums .u8 y) := ⟨_, Lib.hid rfl⟩
          have hy32 : Hid (y.length = 32 ∧ bytes y) := Lib.hid (by rw [hy.out]; exact pubH_is _)
          have zC : Hid (C.size = 32) := Lib.hid (by rw [hC.out, nums_size]; exact hy32.out.1)
          obtain ⟨S, hS⟩ : ∃ S, Hid (S = strOfNums x) := ⟨_, Lib.hid rfl⟩
          obtain ⟨S3, hS3⟩ : ∃ S3, Hid (S3 = ⟨#[3]⟩ ++ S) := ⟨_, Lib.hid rfl⟩
          have sS : S.size = 32 := by rw [hS.out, strOfNums_size]; exact hx32.out.1
          have a1 : ∀ W, (Op.stringOp .add ⟨#[3]⟩ S).run Tryd.prog W = .ok (.string S3) W := fun W => by rw [hS3.out]; exact join_text _ _ (by show 1 + S.size ≤ _; omega) W
          have X1 : Hid (∀ W, Calls Tryd.prog 12 #[.string seed, .int .i64 (index : Int), .int .i64 (k : Int), .int .i64 (b : Int)] W fun e w' => e = .returned (.agg X) ∧ Below W.heap.size W w') := Lib.hid fun W => by
            rw [hX.out, hx.out]; exact SE.out W k b (by omega) (by omega)
          have X2 : Hid (∀ W, Calls Tryd.prog 27 #[.string S3] W fun e w' => e = .returned (.agg C) ∧ Below W.heap.size W w') := Lib.hid fun W => by
            rw [hC.out, hy.out]
            have := refSum_any S3 (by rw [hS3.out, ByteArray.size_append]; show 1 + S.size ≤ _; omega) W
            rw [hS3.out, hS.out] at this
            rw [hS3.out, hS.out]; exact this
          have HN : Hid (pubN seed index (2 * k + (b + 1)) = pubN seed index (2 * k + b) ++ [y]) := Lib.hid (by
            rw [show 2 * k + (b + 1) = 2 * k + b + 1 by omega, pubN_next, hy.out, hx.out]
            unfold pubAt
            rw [show (2 * k + b) / 2 = k by omega, show (2 * k + b) % 2 = b by omega])
          have hkb : Hid (2 * k + b + 1 ≤ 8192) := Lib.hid (by omega)
          clear sS
          go_upto_region 11 with (go_at_call 12; (with_reducible refine (X1.out _).mono ?_); rintro e w1 ⟨rfl, hb1⟩; obtain ⟨w2, s2, hr2, hb2', hz2⟩ := made_write w1 X zX.out oX.out; have HR2 := Lib.hid hr2; have HB2 := Lib.hid (below_new hb1 hb2'); clear hr2 hb1 hb2' hz2)
          clear s2
          have c1 : (convert 41 9 (.slice (some ⟨w1.heap.size, 0, none⟩) 32 32)).run Tryd.prog w2 = .ok (.string S) w2 := by rw [hS.out]; exact conv_row (by rw [← hX.out]; exact HR2.out) hx32.out.1
          go_wp2_with (first
            | (go_at_call 27; (with_reducible refine (X2.out _).mono ?_); rintro e w3 ⟨rfl, hb3⟩; have HB3 := Lib.hid (below_new HB2.out hb3); clear hb3 c1)
            | (refine wpList_buildOne rfl _ rfl C rfl zC.out ?_)
            | (at_builtin; refine wpList_append_own _ rfl (.tmp 28) (.tmp 33) 33 rfl w.heap.size 24 i0 _ 32 32 Tryd.underlying33 hi0 hz0 hz1 hz2 (by simp [Value.cells, nums]) (by decide) _ _ _ rfl ((own_below HO.out.1 HB3.out).alloc _) ⟨w3.heap.size, 0, none⟩ 1 1 (y.map (Value.int .u8)) rfl ?cc0 ?cc1 ?cc2 (by have := hkb.out; unfold maxLen; omega) (by have := hkb.out; omega) ?cc5 ?_))
          case cc0 => rw [List.length_map, hy32.out.1]
          case cc1 =>
            intro j u hj
            rw [add_flat, cell_of_row _ w3.heap.size j _ _ _ (heap_alloc_new w3 _), hC.out]
            simpa [nums] using hj
          case cc2 =>
            intro u hu
            obtain ⟨z, _, rfl⟩ := List.mem_map.1 hu
            rfl
          case cc5 => have := HO.out.2.size; have := HB3.out.size; simp; omega
          intro v' w4 hown hgrow _
          have HO2 : Hid (OwnL w w4 v' (2 * k + (b + 1)) (pubN seed index (2 * k + (b + 1)))) := Lib.hid (by rw [HN.out]; exact HO.out.next HB3.out hown hgrow)
          clear hown hgrow HO HB2 HB3
          go_wp2
          go_roundw
          case rel => exact ⟨b + 1, _, by go_num, rfl, by omega, HO2⟩
          case measure => simp [intOf]; omega
        · have hb3 : b = 2 := by omega
          have HO2 : Hid (OwnL w wr v2 (2 * (k + 1)) (pubN seed index (2 * (k + 1)))) := Lib.hid (by rw [show 2 * (k + 1) = 2 * k + b by omega]; exact HO.out)
          clear hb3 HO
          go_wp2
          go_roundw
          case rel => exact ⟨k + 1, _, by go_num, rfl, by omega, HO2⟩
          case measure => simp [intOf]; omega
    · have hk9 : k = 256 := by omega
      have HO2 : Hid (OwnL w wr v 512 (pubN seed index 512)) := Lib.hid (by have := HO.out; rw [hk9] at this; exact this)
      clear HO hk9
      obtain ⟨A, c, hv, hc, hcm, hA⟩ : ∃ A c, Hid (v = .slice A 512 c) ∧ Hid (512 ≤ c) ∧ Hid (c ≤ maxLen) ∧ Hid (HL wr wr.heap.size A (pubN seed index 512)) := by
        obtain ⟨A, c, e1, e2, e3, e4⟩ := OwnL.lead2 (ls := pubN seed index 512) (by rw [pubN_length]; exact HO2.out) (pubN_hashes _ _ _)
        rw [pubN_length] at e1 e2
        exact ⟨A, c, Lib.hid e1, Lib.hid e2, Lib.hid e3, Lib.hid e4⟩
      go_wp2
      go_ret
      exact ⟨A, c, by rw [pubN_length]; exact congrArg Ending.returned hv.out, by rw [pubN_length]; exact hc.out, hcm.out, hA.out, HO2.out.2⟩
theorem refPublic_any (seed : ByteArray) (hs : seed.size ≤ 100000) (index : Int) (h64 : -9223372036854775808 ≤ index ∧ index ≤ 9223372036854775807) (w : World) :
    Calls Tryd.prog 15 #[.string seed, .int .i64 index] w (GivesP w (pubF seed index)) := by
  by_cases h : index < 0 ∨ 2147483647 < index
  · rw [pubF_no h]
    by_cases h1 : index < 0
    · have d1 : decide (index < 0) = true := decide_eq_true h1
      clear h hs
      go_enter Tryd.func15, Tryd.ntmps15
      go_wp2
      go_ret
      exact ⟨none, 0, rfl, Nat.le_refl _, by decide, HL.nil _ _ _, Below.refl _ _⟩
    · have d1 : decide (index < 0) = false := decide_eq_false h1
      have h2 : 2147483647 < index := h.resolve_left h1
      have d2 : decide (2147483647 < index) = true := decide_eq_true h2
      clear h hs
      go_enter Tryd.func15, Tryd.ntmps15
      go_wp2
      go_ret
      exact ⟨none, 0, rfl, Nat.le_refl _, by decide, HL.nil _ _ _, Below.refl _ _⟩
  · obtain ⟨I, rfl⟩ : ∃ I : Nat, index = I := ⟨index.toNat, by omega⟩
    rw [pubF_ok (by omega)]
    exact refPublic_some seed hs I (by omega) w
end Go.Proofs.YtllabnhgiojmmaaDoor
