/-
  The walk of the document's Read (layer 3): it answers what the program's does; what it makes is new memory, nothing that was there changes.
-/
import Derived.Test.YtcafjmaimohljaaRead
import Derived.Test.YtcafjmaimohljaaRefNum
namespace Go.Proofs.Ytcafjmaimohljaa
open Go.RowKit
set_option linter.unusedVariables false

theorem lead_at (f k : Nat) (l : List Int) (hk : k < l.length) (hf : k < f) (h : Codec.lead f l = k + Codec.lead (f - k) (l.drop k)) (hc : 128 ≤ l.getD k 0) : Codec.lead f l = (k + 1) + Codec.lead (f - (k + 1)) (l.drop (k + 1)) := by
  rw [h, List.drop_eq_getElem_cons hk, show f - k = (f - (k + 1)) + 1 by omega, Codec.lead]
  rw [List.getD_eq_getElem?_getD, List.getElem?_eq_getElem hk] at hc
  rw [if_pos (by simpa using hc)]
  omega
theorem lead_end (f k : Nat) (l : List Int) (h : Codec.lead f l = k + Codec.lead (f - k) (l.drop k)) (he : l.length ≤ k ∨ f ≤ k ∨ l.getD k 0 < 128) : Codec.lead f l = k := by
  rw [h]
  rcases he with he | he | he
  · rw [List.drop_of_length_le he]
    cases f - k <;> simp [Codec.lead]
  · rw [show f - k = 0 by omega]; simp [Codec.lead]
  · rcases Nat.lt_or_ge k l.length with hk | hk
    · rw [List.drop_eq_getElem_cons hk]
      rw [List.getD_eq_getElem?_getD, List.getElem?_eq_getElem hk] at he
      cases f - k with
      | zero => simp [Codec.lead]
      | succ m => rw [Codec.lead, if_neg (by simp at he; omega)]; rfl
    · rw [List.drop_of_length_le hk]
      cases f - k <;> simp [Codec.lead]
theorem readR_ref (s : ByteArray) : readR s = Codec.refR (textL s) := (Codec.refR_is _ (textL_bytes s)).symm
theorem val_next (s : ByteArray) (i : Nat) (h : i < s.size) : Codec.valL ((textL s).take (i + 1)) = (Codec.valL ((textL s).take i) * 128 + s[i].toNat % 128) % 18446744073709551616 := by
  rw [List.take_succ_eq_append_getElem (by rw [textL_length]; exact h), Codec.valL_snoc]
  have e : (textL s)[i]'(by rw [textL_length]; exact h) = ((s[i].toNat : Nat) : Int) := by simp only [textL, List.getElem_map]; rfl
  rw [e, Int.toNat_natCast]
theorem numS_is (s : ByteArray) (p n : Nat) : numS n = s.extract 0 p ↔ Codec.numL n = (textL s).take p := by
  constructor
  · intro h
    rw [← textL_take, ← h]
    exact (textL_nums _ (Codec.numL_bytes n)).symm
  · intro h
    unfold numS
    rw [h, ← textL_take, text_nums]
theorem neq_yes (a b : ByteArray) (h : ¬ a = b) : (!(a.toList == b.toList)) = true := by
  have : ¬ a.toList = b.toList := fun e => h (Go.WideShapes.bytes_inj (by rw [ByteArray.toList_eq, ByteArray.toList_eq] at e; exact e))
  simpa using this
theorem neq_no (a b : ByteArray) (h : a = b) : (!(a.toList == b.toList)) = false := by
  subst h; simp
set_option maxHeartbeats 2000000 in
set_option maxRecDepth 100000 in
theorem refRead_any (s : ByteArray) (hs : s.size ≤ maxLen) (w : World) :
    Calls Try.prog 18 #[.string s] w fun e w' => e = .returned (readV s) ∧ Below w.heap.size w w' := by
  unfold maxLen at hs
  have HL := Lib.hid (textL_length s)
  go_enter Try.func18, Try.ntmps18
  go_wp2
  go_loop [5] (fun s5 => ∃ k : Nat, k ≤ s.size ∧ k ≤ 10 ∧ s5 = .int .i64 (k : Int) ∧ Hid (Codec.lead 10 (textL s) = k + Codec.lead (10 - k) ((textL s).drop k))) (fun s5 => 10 - (intOf s5).toNat)
  case atStart => exact ⟨0, by omega, by omega, rfl, Lib.hid (by simp)⟩
  case round =>
    obtain ⟨k, hk, hk10, rfl, HR⟩ := hrel
    by_cases hgo : k < s.size ∧ k < 10 ∧ ∃ h : k < s.size, 128 ≤ s[k].toNat
    · obtain ⟨hlt, hlt10, _, hc⟩ := hgo
      have hR' : Hid (Codec.lead 10 (textL s) = (k + 1) + Codec.lead (10 - (k + 1)) ((textL s).drop (k + 1))) := Lib.hid (lead_at 10 k _ (by rw [HL.out]; exact hlt) hlt10 HR.out (by rw [textL_getD s k hlt]; omega))
      have d1 : decide ((k : Int) < (s.size : Int)) = true := decide_eq_true (by omega)
      have d2 : decide ((k : Int) < 10) = true := decide_eq_true (by omega)
      have d3 : decide (128 ≤ ((s[k].toNat : Nat) : Int)) = true := decide_eq_true (by omega)
      go_wp2
      go_round
      case rel => exact ⟨k + 1, by omega, by omega, by go_num, hR'⟩
      case measure => simp [intOf]; omega
    · have hE : Hid (Codec.lead 10 (textL s) = k) := Lib.hid (lead_end 10 k _ HR.out (by
        rcases Nat.lt_or_ge k s.size with h | h
        · rcases Nat.lt_or_ge k 10 with h' | h'
          · right; right
            rw [textL_getD s k h]
            have : ¬ 128 ≤ s[k].toNat := fun hc => hgo ⟨h, h', h, hc⟩
            omega
          · right; left; omega
        · left; rw [HL.out]; exact h))
      have hstop : (decide ((k : Int) < (s.size : Int)) = false) ∨ (decide ((k : Int) < (s.size : Int)) = true ∧ decide ((k : Int) < 10) = false) ∨ (∃ h : k < s.size, decide ((k : Int) < (s.size : Int)) = true ∧ decide ((k : Int) < 10) = true ∧ decide (128 ≤ ((s[k].toNat : Nat) : Int)) = false) := by
        rcases Nat.lt_or_ge k s.size with h | h
        · rcases Nat.lt_or_ge k 10 with h' | h'
          · have : ¬ 128 ≤ s[k].toNat := fun hc => hgo ⟨h, h', h, hc⟩
            exact .inr (.inr ⟨h, decide_eq_true (by omega), decide_eq_true (by omega), decide_eq_false (by omega)⟩)
          · exact .inr (.inl ⟨decide_eq_true (by omega), decide_eq_false (by omega)⟩)
        · exact .inl (decide_eq_false (by omega))
      clear hgo HR
      rcases hstop with d1 | ⟨d1, d2⟩ | ⟨hlt, d1, d2, d3⟩
      · have hge : s.size ≤ k := by have := of_decide_eq_false d1; omega
        have hN : Hid (readV s = _) := Lib.hid (readV_no s (by rw [readR_ref]; unfold Codec.refR; rw [hE.out, HL.out, if_pos (.inl hge)]))
        have d4 : decide ((s.size : Int) ≤ (k : Int)) = true := decide_eq_true (by omega)
        go_wp2
        go_ret3
        exact ⟨ret_read hN.out, Below.refl _ _⟩
      · have hge : 10 ≤ k := by have := of_decide_eq_false d2; omega
        have hlt : k < s.size := by have := of_decide_eq_true d1; omega
        have hN : Hid (readV s = _) := Lib.hid (readV_no s (by rw [readR_ref]; unfold Codec.refR; rw [hE.out, HL.out, if_pos (.inr (by omega))]))
        have d4 : decide ((s.size : Int) ≤ (k : Int)) = false := decide_eq_false (by omega)
        have d5 : decide (9 < (k : Int)) = true := decide_eq_true (by omega)
        go_wp2
        go_ret3
        exact ⟨ret_read hN.out, Below.refl _ _⟩
      · have hk9 : k ≤ 9 := by have := of_decide_eq_true d2; omega
        have d4 : decide ((s.size : Int) ≤ (k : Int)) = false := decide_eq_false (by omega)
        have d5 : decide (9 < (k : Int)) = false := decide_eq_false (by omega)
        go_wp2
        go_loop [6, 7] (fun s6 s7 => ∃ i : Nat, i ≤ k + 1 ∧ s7 = .int .i64 (i : Int) ∧ s6 = .int .u64 ((Codec.valL ((textL s).take i) : Nat) : Int)) (fun _ s7 => k + 1 - (intOf s7).toNat)
        case atStart => exact ⟨0, by omega, rfl, rfl⟩
        case round =>
          obtain ⟨i, hi, rfl, rfl⟩ := hrel
          obtain ⟨v, hv⟩ : ∃ v, Hid (v = Codec.valL ((textL s).take i)) := ⟨_, Lib.hid rfl⟩
          rw [← hv.out]
          have hvb : v < 18446744073709551616 := by rw [hv.out]; exact Codec.valL_lt _
          by_cases hle : i ≤ k
          · have hil : i < s.size := by omega
            have hcb := (s[i]).toNat_lt
            have hnx : Hid (Codec.valL ((textL s).take (i + 1)) = (v * 128 + s[i].toNat % 128) % 18446744073709551616) := Lib.hid (by rw [val_next s i hil, hv.out])
            go_wp2
            go_round
            case rel => exact ⟨i + 1, by omega, by go_num, by rw [hnx.out]; exact ret_val (by rw [IntKind.wrap_u64, IntKind.wrap_u64]; omega)⟩
            case measure => simp [intOf]; omega
          · have hik : Hid (i = k + 1) := Lib.hid (by omega)
            have w1k : IntKind.i64.wrap ((k : Int) + 1) = (k : Int) + 1 := by rw [IntKind.wrap_i64]; omega
            have k0 : (0 : Int) ≤ (k : Int) + 1 := by omega
            have k1 : ((k : Int) + 1).toNat = k + 1 := by omega
            have k2 : (k : Int) + 1 ≤ (s.size : Int) := by omega
            rw [hik.out] at hv
            have hX : Hid (∀ W, Calls Try.prog 12 #[.int .u64 (v : Int)] W fun e w' => e = .returned (.string (numS v)) ∧ Below W.heap.size W w') := Lib.hid fun W => refNum_any v hvb W
            by_cases hAB : numS v = s.extract 0 (k + 1)
            · have hN : Hid (readV s = _) := Lib.hid (readV_yes s v (k + 1) (by
                have hl := (numS_is s (k + 1) v).1 hAB
                rw [readR_ref]; unfold Codec.refR
                rw [hE.out, HL.out, if_neg (by omega), ← hv.out, if_pos hl]))
              have ne := neq_no _ _ hAB
              clear hAB
              go_wp2_with fail
              go_region_with (go_at_call 12; (with_reducible refine (hX.out _).mono ?_); rintro e w1 ⟨rfl, hb⟩; have HB := Lib.hid hb; clear hb)
              all_goals
                go_wp2
                go_quiet (fail)
                go_wp2
                go_ret3
                exact ⟨ret_read hN.out, below_drewN (below_new (Below.refl _ _).drew HB.out) _⟩
            · have hN : Hid (readV s = _) := Lib.hid (readV_no s (by
                have hl := fun h => hAB ((numS_is s (k + 1) v).2 h)
                rw [readR_ref]; unfold Codec.refR
                rw [hE.out, HL.out, if_neg (by omega), ← hv.out, if_neg hl]))
              have ne := neq_yes _ _ hAB
              clear hAB
              go_wp2_with fail
              go_region_with (go_at_call 12; (with_reducible refine (hX.out _).mono ?_); rintro e w1 ⟨rfl, hb⟩; have HB := Lib.hid hb; clear hb)
              all_goals
                go_wp2
                go_ret3
                exact ⟨ret_read hN.out, below_new (Below.refl _ _).drew HB.out⟩
#print axioms refRead_any
end Go.Proofs.Ytcafjmaimohljaa
