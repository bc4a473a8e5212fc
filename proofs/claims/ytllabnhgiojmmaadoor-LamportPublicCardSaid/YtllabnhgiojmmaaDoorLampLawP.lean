/-
  The walk of the statement LamportPublic: it returns true, where the program's functions say what they ought to; what it makes is new memory, nothing that was there changes. Conditions: the two tables as they were laid, a list of hashes in memory.
-/
import Derived.Test.YtllabnhgiojmmaaDoorLampKeyed
import Derived.Test.YtllabnhgiojmmaaDoorRefKey
import Derived.Test.YtllabnhgiojmmaaDoorListSame
namespace Go.Proofs.YtllabnhgiojmmaaDoor
open Go.RowKit Go.Great
set_option linter.unusedVariables false
set_option maxRecDepth 100000

/-- What the statement holds: two lists of hashes. -/
structure PbH (w : World) (A B : Option Addr) (ls ms : List (List Int)) (W : World) : Prop where
  fst : HW W A ls
  snd : HW W B ms
  tab : Tab W
  below : Below w.heap.size w W
theorem PbH.next {w W W1 : World} {A B : Option Addr} {ls ms : List (List Int)} (h : PbH w A B ls ms W) (hb : Below W.heap.size W W1) : PbH w A B ls ms W1 :=
  ⟨h.fst.next hb, h.snd.next hb, h.tab.next hb, below_new h.below hb⟩
attribute [local go_sem ↓ high] read_at write_at eq_at neq_at
set_option maxHeartbeats 8000000 in
theorem lpubliclaw_any (SEC : SecretSays) (SIG : SignSays) (REC : RecoverSays) (PUB : PublicSays) (KEY : KeySays) (seed : ByteArray) (hs : seed.size ≤ maxLen) (index : Int) (h64 : num64 index) (ls : List (List Int)) (hh : hashes ls) (A : Option Addr) (c : Nat) (w : World) (hA : HL w w.heap.size A ls) (hT : Tab w) (hc : ls.length ≤ c) (hcm : c ≤ maxLen) :
    Calls Tryd.prog 4 #[.string seed, .int .i64 index, .slice A ls.length c] w fun e w' => e = .returned (.bool true) ∧ Below w.heap.size w w' := by
  have KED : Hid (∀ W, Tab W → Calls Tryd.prog 8 #[] W fun e w' => e = .returned (.bool true) ∧ Below W.heap.size W w') := Lib.hid fun W h => keyed_any SEC SIG REC W h
  obtain ⟨n, hn⟩ : ∃ n, Hid (n = ls.length) := ⟨_, Lib.hid rfl⟩
  have hcm2 := hcm
  unfold maxLen at hcm2
  have HT := Lib.hid hT
  rw [← hn.out]
  by_cases h3 : 300 < seed.size
  · have d1 : decide (300 < (seed.size : Int)) = true := decide_eq_true (by omega)
    have d2 : (300 : Int) < (seed.size : Int) := by omega
    clear hA hT hc hcm hcm2 hs hh
    go_enter Tryd.func4, Tryd.ntmps4
    go_wp2_with (go_at_call 8; (with_reducible refine (KED.out _ HT.out).mono ?_); rintro e w1 ⟨rfl, hb⟩)
    go_ret
    exact ⟨rfl, hb⟩
  have d1 : decide (300 < (seed.size : Int)) = false := decide_eq_false (by omega)
  have d2 : ¬ (300 : Int) < (seed.size : Int) := by omega
  by_cases h5 : 520 < n
  · have d3 : decide (520 < (n : Int)) = true := decide_eq_true (by omega)
    have d4 : (520 : Int) < (n : Int) := by omega
    clear hA hT hc hcm hcm2 hs hh
    go_enter Tryd.func4, Tryd.ntmps4
    go_wp2_with (go_at_call 8; (with_reducible refine (KED.out _ HT.out).mono ?_); rintro e w1 ⟨rfl, hb⟩)
    go_ret
    exact ⟨rfl, hb⟩
  have d3 : decide (520 < (n : Int)) = false := decide_eq_false (by omega)
  have d4 : ¬ (520 : Int) < (n : Int) := by omega
  obtain ⟨ps, hps⟩ : ∃ ps, Hid (ps = pubF seed index) := ⟨_, Lib.hid rfl⟩
  obtain ⟨m, hm⟩ : ∃ m, Hid (m = ps.length) := ⟨_, Lib.hid rfl⟩
  have hmm : m ≤ 512 := by
    rw [hm.out, hps.out]; unfold pubF
    split
    · exact Nat.zero_le _
    · rw [pubN_length]; exact Nat.le_refl _
  have hph : Hid (hashes ps) := Lib.hid (by rw [hps.out]; exact pubF_hashes _ _)
  have HH := Lib.hid hh
  have PR : Hid (∀ W, Calls Tryd.prog 15 #[.string seed, .int .i64 index] W fun e w' => ∃ A c, e = .returned (.slice A m c) ∧ (m ≤ c ∧ c ≤ maxLen) ∧ HW w' A ps ∧ Below W.heap.size W w') := Lib.hid fun W => by
    refine (refPublic_any seed (by omega) index h64 W).mono ?_
    rintro e w' ⟨A, c, h1, h2, h3, h4, h5⟩
    rw [← hps.out] at h1 h2 h4
    rw [← hm.out] at h1 h2
    exact ⟨A, c, h1, ⟨h2, h3⟩, h4, h5⟩
  have PP : Hid (∀ W, Tab W → Calls Tryd.prog 17 #[.string seed, .int .i64 index] W fun e w' => ∃ A c, e = .returned (.slice A m c) ∧ HW w' A ps ∧ Below W.heap.size W w') := Lib.hid fun W hW => by
    refine (PUB seed index W hW (by omega) h64).mono ?_
    rintro e w' ⟨A, c, h1, h2, h3, h4, h5⟩
    rw [← hps.out] at h1 h4
    rw [← hm.out] at h1
    exact ⟨A, c, h1, h4, h5⟩
  obtain ⟨K1, hK1⟩ : ∃ K, Hid (K = nums .u8 (keyF ps)) := ⟨_, Lib.hid rfl⟩
  obtain ⟨K2, hK2⟩ : ∃ K, Hid (K = nums .u8 (keyF ls)) := ⟨_, Lib.hid rfl⟩
  have SM : Hid (∀ W A B c d, HW W A ps → HW W B ps → Calls Tryd.prog 16 #[.slice A m c, .slice B m d] W fun e w' => e = .returned (.bool true) ∧ Below W.heap.size W w') := Lib.hid fun W A B c d h1 h2 => by
    rw [hm.out]
    refine (lsame_any ps ps hph.out hph.out (by rw [← hm.out]; omega) (by rw [← hm.out]; omega) A B c d W h1 h2).mono ?_
    rintro e w' ⟨he, k, rfl⟩
    exact ⟨by rw [he, decide_eq_true rfl], below_drewN (Below.refl _ _) k⟩
  have LP : Hid (∀ W A c, Tab W → HW W A ps → (m ≤ c ∧ c ≤ maxLen) → Calls Tryd.prog 18 #[.slice A m c] W fun e w' => e = .returned (.agg K1) ∧ Below W.heap.size W w') := Lib.hid fun W A c hW h hc => by
    rw [hm.out, hK1.out]; exact KEY ps A c W hW hph.out h (by rw [← hm.out]; exact hc.1) hc.2
  have RP : Hid (∀ W A c, HW W A ps → Calls Tryd.prog 19 #[.slice A m c] W fun e w' => e = .returned (.agg K1) ∧ Below W.heap.size W w') := Lib.hid fun W A c h => by
    rw [hm.out, hK1.out]; exact refKey_any ps hph.out A c W h (by rw [← hm.out]; omega)
  have LL : Hid (∀ W, Tab W → HW W A ls → Calls Tryd.prog 18 #[.slice A n c] W fun e w' => e = .returned (.agg K2) ∧ Below W.heap.size W w') := Lib.hid fun W hW h => by
    rw [hn.out, hK2.out]; exact KEY ls A c W hW HH.out h hc hcm
  have RL : Hid (∀ W, HW W A ls → Calls Tryd.prog 19 #[.slice A n c] W fun e w' => e = .returned (.agg K2) ∧ Below W.heap.size W w') := Lib.hid fun W h => by
    rw [hn.out, hK2.out]; exact refKey_any ls HH.out A c W h (by omega)
  have e1 : ∀ W, (eqAt (.agg K1) (.agg K1)).run Tryd.prog W = .ok (.bool true) W := fun W => by
    rw [hK1.out, eqAt_hash _ _ (keyF_is _).1 (keyF_is _).1 (keyF_is _).2 (keyF_is _).2 W, decide_eq_true rfl]
  have e2 : ∀ W, (eqAt (.agg K2) (.agg K2)).run Tryd.prog W = .ok (.bool true) W := fun W => by
    rw [hK2.out, eqAt_hash _ _ (keyF_is _).1 (keyF_is _).1 (keyF_is _).2 (keyF_is _).2 W, decide_eq_true rfl]
  have HA := Lib.hid hA
  clear hA hT hc hcm hcm2 hs hh h64 h3 h5 hmm hn hm
  go_enter Tryd.func4, Tryd.ntmps4
  go_upto_region 4 with (go_at_call 15; (with_reducible refine (PR.out _).mono ?_); rintro e w1 ⟨Ap, cp, rfl, hcp, hp, hb⟩; have HP : Hid (PbH w A Ap ls ps w1) := Lib.hid ⟨HW.next HA.out hb, hp, HT.out.next hb, hb⟩; have HC := Lib.hid hcp; clear hcp hp hb)
  go_wp2_with (first
    | (go_at_call 17; (with_reducible refine (PP.out _ HP.out.tab).mono ?_); rintro e w2 ⟨Aq, cq, rfl, hq, hb⟩; have HP := Lib.hid (HP.out.next hb); have HQ := Lib.hid hq; clear hq hb)
    | (go_at_call 16; (with_reducible refine (SM.out _ _ _ _ _ HQ.out HP.out.snd).mono ?_); rintro e w2 ⟨rfl, hb⟩; have HP := Lib.hid (HP.out.next hb); clear hb)
    | (go_at_call 18; (first | (with_reducible refine (LL.out _ HP.out.tab HP.out.fst).mono ?_) | (with_reducible refine (LP.out _ _ _ HP.out.tab HP.out.snd HC.out).mono ?_)); rintro e w2 ⟨rfl, hb⟩; have HP := Lib.hid (HP.out.next hb); clear hb)
    | (go_at_call 19; (first | (with_reducible refine (RL.out _ HP.out.fst).mono ?_) | (with_reducible refine (RP.out _ _ _ HP.out.snd).mono ?_)); rintro e w2 ⟨rfl, hb⟩; have HP := Lib.hid (HP.out.next hb); clear hb)
    | (go_at_call 8; (with_reducible refine (KED.out _ HP.out.tab).mono ?_); rintro e w2 ⟨rfl, hb⟩; have HP := Lib.hid (HP.out.next hb); clear hb))
  go_ret
  exact ⟨rfl, HP.out.below⟩
end Go.Proofs.YtllabnhgiojmmaaDoor
