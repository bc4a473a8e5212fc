/-
  The walk of the statement PathsBack: it returns true; what it makes is new memory, nothing that was there changes. Conditions: the two tables as they were laid, a list of hashes in memory.
-/
import Derived.Test.YtfakimbneenfdaaDoorPathFound
import Derived.Test.YtfakimbneenfdaaDoorPathCopy
namespace Go.Proofs.YtfakimbneenfdaaDoor
open Go.RowKit Go.Great
set_option linter.unusedVariables false
set_option maxRecDepth 100000

/-- What the statement holds: the hash, the root, the leaves. -/
structure BkH (w : World) (g5 : Nat) (H R : Array Value) (A : Option Addr) (ls : List (List Int)) (W : World) : Prop where
  h : Row W w.heap.size 31 H
  rt : Row W g5 31 R
  ls : HW W A ls
  tab : Tab W
  below : Below w.heap.size w W
theorem BkH.next {w W W1 : World} {g5 : Nat} {H R : Array Value} {A : Option Addr} {ls : List (List Int)} (h : BkH w g5 H R A ls W) (hb : Below W.heap.size W W1) : BkH w g5 H R A ls W1 :=
  ⟨h.h.next hb, h.rt.next hb, h.ls.next hb, h.tab.next hb, below_new h.below hb⟩
attribute [local go_sem ↓ high] read_at write_at eq_at neq_at
set_option maxHeartbeats 40000000 in
theorem backlaw_any (ls : List (List Int)) (hh : hashes ls) (A : Option Addr) (c : Nat) (h : List Int) (h32 : h.length = 32 ∧ bytes h) (w : World) (hA : HL w w.heap.size A ls) (hT : Tab w) (hc : ls.length ≤ c) (hcm : c ≤ maxLen) :
    Calls Tryd.prog 9 #[.slice A ls.length c, .agg (nums .u8 h)] w fun e w' => e = .returned (.bool true) ∧ Below w.heap.size w w' := by
  obtain ⟨n, hn⟩ : ∃ n, Hid (n = ls.length) := ⟨_, Lib.hid rfl⟩
  obtain ⟨H, hH⟩ : ∃ H, Hid (H = nums .u8 h) := ⟨_, Lib.hid rfl⟩
  have zH : Hid (H.size = 32) := Lib.hid (by rw [hH.out, nums_size]; exact h32.1)
  have hcm2 := hcm
  unfold maxLen at hcm2
  have hnm : n ≤ 9223372036854775807 := by rw [hn.out]; omega
  have HT := Lib.hid hT
  have HAw : Hid (HW w A ls) := Lib.hid hA
  have HC := Lib.hid (And.intro hc hcm)
  have HH32 := Lib.hid h32
  rw [← hn.out, ← hH.out]
  by_cases h60 : 60 < n
  · have d1 : decide (60 < (n : Int)) = true := decide_eq_true (by omega)
    have d2 : (60 : Int) < (n : Int) := by omega
    clear hA hT hc hcm hcm2 h32 hh
    go_enter Tryd.func9, Tryd.ntmps9
    go_upto_region 1 with fail
    refine world_gen (fun W => Tab W ∧ Below w.heap.size w W) ⟨HT.out.next ((Below.refl _ _).alloc (Nat.le_refl _) _), (Below.refl _ _).alloc (Nat.le_refl _) _⟩ (fun wx HX => ?_)
    have HX := Lib.hid HX
    go_wp2_with (go_at_call 31; (with_reducible refine (found_any _ HX.out.1).mono ?_); rintro e w1 ⟨rfl, hb⟩; have HB1 := Lib.hid (below_new HX.out.2 hb); clear hb)
    go_ret
    exact ⟨rfl, HB1.out⟩
  · have d1 : decide (60 < (n : Int)) = false := decide_eq_false (by omega)
    have d2 : ¬ (60 : Int) < (n : Int) := by omega
    have d3 : (n : Int) ≤ 60 := by omega
    obtain ⟨R, hR⟩ : ∃ R, Hid (R = nums .u8 (rootL ls)) := ⟨_, Lib.hid rfl⟩
    have hrt := rootL_is ls hh
    have zR : Hid (R.size = 32) := Lib.hid (by rw [hR.out, nums_size]; exact hrt.1)
    have oR : Hid (R.all (·.oneCell') = true) := Lib.hid (by rw [hR.out]; exact nums_one _ _)
    have RR : Hid (∀ W, HW W A ls → Tab W → Calls Tryd.prog 29 #[.slice A n c] W fun ev w' => ev = .returned (.agg R) ∧ Below W.heap.size W w') := Lib.hid fun W h1 h2 => by
      have := root_any ls hh A c W h1 h2 (by rw [← hn.out]; exact hnm)
      rwa [← hn.out, ← hR.out] at this
    -- Check of a list, whichever it is
    have CK : Hid (∀ W B d i (P : List (List Int)) (X : Array Value) (E : Int), i < n → HW W B P → Tab W → hashes P → P.length ≤ d → d ≤ maxLen → X = nums .u8 (ls.getD i []) → checkF (ls.getD i []) (i : Int) (n : Int) P (rootL ls) = E → Calls Tryd.prog 34 #[.agg X, .int .i64 (i : Int), .int .i64 (n : Int), .slice B P.length d, .agg R] W fun e w' => e = .returned (.int .i64 E) ∧ Below W.heap.size W w') := Lib.hid fun W B d i P X E hi hB hTW hP hd hdm hX hE => by
      have := check_any (ls.getD i []) (rootL ls) (hashes_at hh i (by rw [← hn.out]; exact hi)) hrt (i : Int) (n : Int) (by omega) (by omega) P hP B d W hB hTW hd (by unfold maxLen at hdm; omega)
      rw [hE, ← hR.out, ← hX] at this
      exact this
    have HHs := Lib.hid hh
    clear hA hT hc hcm hcm2 h32 hh hrt
    go_enter Tryd.func9, Tryd.ntmps9
    go_upto_region 1 with fail
    refine world_gen (fun W => Row W w.heap.size 31 H ∧ Below w.heap.size w W) ⟨Row.made _ _ _, (Below.refl _ _).alloc (Nat.le_refl _) _⟩ (fun wx HX => ?_)
    have HX : Hid (Row wx w.heap.size 31 H ∧ HW wx A ls ∧ Tab wx ∧ Below w.heap.size w wx) := Lib.hid ⟨HX.1, HAw.out.next HX.2, HT.out.next HX.2, HX.2⟩
    go_wp2_with (go_at_call 29; (with_reducible refine (RR.out _ HX.out.2.1 HX.out.2.2.1).mono ?_); rintro e w1 ⟨rfl, hb⟩; obtain ⟨w2, s2, hr2, hb2, hz2⟩ := made_write w1 R zR.out oR.out; have H2 : Hid (BkH w w1.heap.size H R A ls w2) := Lib.hid ⟨(HX.out.1.next hb).next hb2, hr2, (HX.out.2.1.next hb).next hb2, (HX.out.2.2.1.next hb).next hb2, below_new (below_new HX.out.2.2.2 hb) hb2⟩; clear hr2 hb2 hz2 hb)
    clear RR HX
    go_loopw [6] (fun s6 wr => ∃ i : Nat, s6 = .int .i64 (i : Int) ∧ i ≤ n ∧ Hid (BkH w w1.heap.size H R A ls wr)) (fun s6 _ => (n - intOf s6).toNat)
    case atStart => exact ⟨0, rfl, by omega, H2⟩
    case round =>
      clear H2
      obtain ⟨i, rfl, hin, HB⟩ := hrel
      by_cases hlt : i < n
      · have d4 : (i : Int) < (n : Int) := by omega
        have hil : i < ls.length := by rw [← hn.out]; exact hlt
        have hwi : IntKind.i64.wrap (i : Int) = (i : Int) := by rw [IntKind.wrap_i64]; omega
        have hwn : IntKind.i64.wrap (n : Int) = (n : Int) := by rw [IntKind.wrap_i64]; omega
        obtain ⟨ad, rfl⟩ := HB.out.ls.some i hil
        obtain ⟨X, hX⟩ : ∃ X, Hid (X = nums .u8 (ls.getD i [])) := ⟨_, Lib.hid rfl⟩
        obtain ⟨P, hP⟩ : ∃ P, Hid (P = pathL ls i) := ⟨_, Lib.hid rfl⟩
        obtain ⟨q, hq⟩ : ∃ q, Hid (q = P.length) := ⟨_, Lib.hid rfl⟩
        have hPh : Hid (hashes P) := Lib.hid (by rw [hP.out]; exact pathL_hashes _ ls i rfl HHs.out)
        have hqs : Hid (q = (sides i (n - 1)).length) := Lib.hid (by rw [hq.out, hP.out, pathL_sides ls i hil, hn.out])
        have hq6 : q ≤ 6 := by rw [hqs.out]; exact sides_length 6 i (n - 1) (by omega)
        have d5 : (q : Int) ≤ 6 := by omega
        have d6 : ¬ (12 : Int) < (q : Int) := by omega
        have d7 : decide (12 < (q : Int)) = false := decide_eq_false d6
        have hwq : IntKind.i64.wrap (q : Int) = (q : Int) := by rw [IntKind.wrap_i64]; omega
        have KF : Hid (checkF (ls.getD i []) (i : Int) (n : Int) P (rootL ls) = 0) := Lib.hid (by
          have := checkF_path (ls := ls) (i := i) hil (by rw [← hn.out]; omega)
          rw [← hn.out, ← hP.out] at this; exact this)
        have KN : Hid (∀ P' : List (List Int), P'.length ≠ q → checkF (ls.getD i []) (i : Int) (n : Int) P' (rootL ls) = 80) := Lib.hid fun P' h' => checkF_length hlt (by omega) (by rw [← hqs.out]; exact h')
        have PP : Hid (Calls Tryd.prog 32 #[.slice (some ad) n c, .int .i64 (i : Int)] wr fun e w' => ∃ A' c', e = .returned (.tuple #[.slice A' q c', .int .i64 0]) ∧ (q ≤ c' ∧ c' ≤ maxLen) ∧ HW w' A' P ∧ Below wr.heap.size wr w') := Lib.hid (by
          have := path_any ls HHs.out (some ad) c wr HB.out.ls HB.out.tab HC.out.1 HC.out.2 (i : Int)
          rw [pathF_ok hil, ← hP.out, ← hn.out] at this
          refine this.mono ?_
          rintro e w' ⟨A', c', he, h1, h2, h3, h4⟩
          exact ⟨A', c', by rw [hq.out]; exact he, ⟨by rw [hq.out]; exact h1, h2⟩, h3, h4⟩)
        have RX : Hid (∀ W, BkH w w1.heap.size H R (some ad) ls W → (readAt (.pointer (some (ad.add (i * 32))))).run Tryd.prog W = .ok (.agg X) W) := Lib.hid fun W hW => by
          rw [hX.out]; exact HL.read hW.ls HHs.out i hil
        clear hil hq6
        go_upto_region 8 with (go_at_call 32; (with_reducible refine PP.out.mono ?_); rintro e w3 ⟨Ap, cp, rfl, hcp, hA, hb⟩; have H3 : Hid (BkH w w1.heap.size H R (some ad) ls w3) := Lib.hid (HB.out.next hb); have HP3 := Lib.hid hA; have HCP := Lib.hid hcp; clear hb hA hcp)
        clear PP HB
        have hcp1 : cp ≤ 9223372036854775807 := by have := HCP.out.2; unfold maxLen at this; omega
        have hcp2 : q ≤ cp := HCP.out.1
        have C0 : Hid (∀ W, Below w3.heap.size w3 W → Calls Tryd.prog 34 #[.agg X, .int .i64 (i : Int), .int .i64 (n : Int), .slice Ap q cp, .agg R] W fun e w' => e = .returned (.int .i64 0) ∧ Below W.heap.size W w') := Lib.hid fun W hW => by
          have := CK.out W Ap cp i P X 0 hlt (HP3.out.next hW) (H3.out.next hW).tab hPh.out (by rw [← hq.out]; exact HCP.out.1) HCP.out.2 hX.out KF.out
          rwa [← hq.out] at this
        refine wp_region_fk (Below w3.heap.size w3) (.get 0 (.get 1 (.get 2 (.get 3 (.get 4 (.get 5 (.get 6 (.get 7 (.get 8 (.get 9 (.get 10 (.get 11 (.get 12 (.get 13 (.get 14 (.get 15 (.get 16 (.call 17 (.get 18 (.get 19 .done)))))))))))))))))))) (by kernel_rfl) rfl (by kernel_rfl) (by kernel_rfl) (by intro c a d v w h; cases d <;> exact h) (Below.refl w3.heap.size w3).drew (fun Q' hQ => ?_)
        have HS := Lib.hid (Below.refl w3.heap.size w3).drew
        have HQ := Lib.hid hQ
        clear hQ
        refine wpFk_get rfl (by rfl) (fun K hK => ?_)
        refine ⟨?_, fun w' hS' => ?_, ?_⟩
        rotate_left
        · go_simp
          try (with_reducible rfl)
        try go_simp
        refine hK _ ?_
        clear hK K
        refine wpFk_get rfl (by rfl) (fun K hK => ?_)
        refine ⟨?_, fun w' hS' => ?_, ?_⟩
        rotate_left
        · go_simp
          try (with_reducible rfl)
        try go_simp
        refine hK _ ?_
        clear hK K
        refine wpFk_get rfl (by rfl) (fun K hK => ?_)
        refine ⟨?_, fun w' hS' => ?_, ?_⟩
        rotate_left
        · go_simp
          try (with_reducible rfl)
        try go_simp
        refine hK _ ?_
        clear hK K
        refine wpFk_get rfl (by rfl) (fun K hK => ?_)
        refine ⟨?_, fun w' hS' => ?_, ?_⟩
        rotate_left
        · go_simp
          try (with_reducible rfl)
        try go_simp
        refine hK _ ?_
        clear hK K
        refine wpFk_get rfl (by rfl) (fun K hK => ?_)
        refine ⟨?_, fun w' hS' => ?_, ?_⟩
        rotate_left
        · go_simp
          try (with_reducible rfl)
        try go_simp
        refine hK _ ?_
        clear hK K
        refine wpFk_get rfl (by rfl) (fun K hK => ?_)
        refine ⟨?_, fun w' hS' => ?_, ?_⟩
        rotate_left
        · go_simp
          try (with_reducible rfl)
        try go_simp
        refine hK _ ?_
        clear hK K
        refine wpFk_get rfl (by rfl) (fun K hK => ?_)
        refine ⟨?_, fun w' hS' => ?_, ?_⟩
        rotate_left
        · go_simp
          try (with_reducible rfl)
        try go_simp
        refine hK _ ?_
        clear hK K
        refine wpFk_get rfl (by rfl) (fun K hK => ?_)
        refine ⟨?_, fun w' hS' => ?_, ?_⟩
        rotate_left
        · go_simp
          try (with_reducible rfl)
        try go_simp
        refine hK _ ?_
        clear hK K
        refine wpFk_get rfl (by rfl) (fun K hK => ?_)
        refine ⟨?_, fun w' hS' => ?_, ?_⟩
        rotate_left
        · go_simp
          try (with_reducible rfl)
        try go_simp
        refine hK _ ?_
        clear hK K
        refine wpFk_get rfl (by rfl) (fun K hK => ?_)
        refine ⟨?_, fun w' hS' => ?_, ?_⟩
        rotate_left
        · go_simp
          try (with_reducible rfl)
        try go_simp
        refine hK _ ?_
        clear hK K
        refine wpFk_get rfl (by rfl) (fun K hK => ?_)
        refine ⟨?_, fun w' hS' => ?_, ?_⟩
        rotate_left
        · go_simp
          try (with_reducible rfl)
        try go_simp
        refine hK _ ?_
        clear hK K
        refine wpFk_get rfl (by rfl) (fun K hK => ?_)
        refine ⟨_, fun w' hS' => get_load rfl rfl (RX.out _ (H3.out.next hS')), ?_⟩
        try go_simp
        refine hK _ ?_
        clear hK K
        refine wpFk_get rfl (by rfl) (fun K hK => ?_)
        refine ⟨?_, fun w' hS' => ?_, ?_⟩
        rotate_left
        · go_simp
          try (with_reducible rfl)
        try go_simp
        refine hK _ ?_
        clear hK K
        refine wpFk_get rfl (by rfl) (fun K hK => ?_)
        refine ⟨?_, fun w' hS' => ?_, ?_⟩
        rotate_left
        · go_simp
          try (with_reducible rfl)
        try go_simp
        refine hK _ ?_
        clear hK K
        refine wpFk_get rfl (by rfl) (fun K hK => ?_)
        refine ⟨?_, fun w' hS' => ?_, ?_⟩
        rotate_left
        · go_simp
          try (with_reducible rfl)
        try go_simp
        refine hK _ ?_
        clear hK K
        refine wpFk_get rfl (by rfl) (fun K hK => ?_)
        refine ⟨?_, fun w' hS' => ?_, ?_⟩
        rotate_left
        · go_simp
          try (with_reducible rfl)
        try go_simp
        refine hK _ ?_
        clear hK K
        refine wpFk_get rfl (by rfl) (fun K hK => ?_)
        refine ⟨_, fun w' hS' => get_load rfl rfl ((H3.out.next hS').rt.read zR.out), ?_⟩
        try go_simp
        refine hK _ ?_
        clear hK K
        refine wpFk_call rfl (by rfl) (fun K hK => ?_)
        go_simp
        go_at_call 34
        refine (C0.out _ HS.out).mono ?_
        rintro e w2x ⟨rfl, hb⟩
        replace HS := Lib.hid (below_new HS.out hb)
        clear hb
        refine hK _ _ HS.out ?_
        clear hK K
        refine wpFk_get rfl (by rfl) (fun K hK => ?_)
        refine ⟨?_, fun w' hS' => ?_, ?_⟩
        rotate_left
        · go_simp
          try (with_reducible rfl)
        try go_simp
        refine hK _ ?_
        clear hK K
        refine wpFk_get rfl (by rfl) (fun K hK => ?_)
        refine ⟨?_, fun w' hS' => ?_, ?_⟩
        rotate_left
        · go_simp
          try (with_reducible rfl)
        try go_simp
        refine hK _ ?_
        clear hK K
        refine wpFk_done ?_
        refine HQ.out _ _ ?_
        go_upto_region 10 with fail
        refine world_gen (fun W => BkH w w1.heap.size H R (some ad) ls W ∧ HW W Ap P) ⟨H3.out.next HS.out, HP3.out.next HS.out⟩ (fun w5 H5 => ?_)
        have HP5 := Lib.hid H5.2
        have H5 := Lib.hid H5.1
        clear HS HQ C0 H3 HP3
        have hqsm : Hid (q ≤ 8192) := Lib.hid (by omega)
        have hqsm1 : Hid (q + 1 ≤ 8192) := Lib.hid (by omega)
        have hPl : Hid ((P ++ [h]).length = q + 1) := Lib.hid (by rw [List.length_append, hq.out]; rfl)
        have C3 : Hid (∀ W A2 c2, Below w5.heap.size w5 W → HW W A2 (P ++ [h]) → (q + 1 ≤ c2 ∧ c2 ≤ maxLen) → Calls Tryd.prog 34 #[.agg X, .int .i64 (i : Int), .int .i64 (n : Int), .slice A2 (q + 1) c2, .agg R] W fun e w' => e = .returned (.int .i64 80) ∧ Below W.heap.size W w') := Lib.hid fun W A2 c2 hW h1 h2 => by
          have := CK.out W A2 c2 i (P ++ [h]) X 80 hlt h1 (H5.out.next hW).tab (hashes_snoc hPh.out HH32.out) (by rw [hPl.out]; exact h2.1) h2.2 hX.out (KN.out _ (by rw [hPl.out]; omega))
          rwa [hPl.out] at this
        refine wp_region_fk (Below w5.heap.size w5) (.get 0 (.get 1 (.get 2 (.get 3 (.get 4 (.get 5 (.get 6 (.get 7 (.get 9 (.get 12 (.fork 8 10 (.call 10 (.call 11 (.call 13 (.get 14 .done)))) (.call 8 (.call 11 (.call 13 (.get 14 .done))))))))))))))) (by kernel_rfl) rfl (by kernel_rfl) (by kernel_rfl) (by intro c a d v w h; cases d <;> exact h) (Below.refl w5.heap.size w5).drew (fun Q' hQ => ?_)
        have HS := Lib.hid (Below.refl w5.heap.size w5).drew
        have HQ := Lib.hid hQ
        clear hQ
        refine wpFk_get rfl (by rfl) (fun K hK => ?_)
        refine ⟨?_, fun w' hS' => ?_, ?_⟩
        rotate_left
        · go_simp
          try (with_reducible rfl)
        try go_simp
        refine hK _ ?_
        clear hK K
        refine wpFk_get rfl (by rfl) (fun K hK => ?_)
        refine ⟨?_, fun w' hS' => ?_, ?_⟩
        rotate_left
        · go_simp
          try (with_reducible rfl)
        try go_simp
        refine hK _ ?_
        clear hK K
        refine wpFk_get rfl (by rfl) (fun K hK => ?_)
        refine ⟨?_, fun w' hS' => ?_, ?_⟩
        rotate_left
        · go_simp
          try (with_reducible rfl)
        try go_simp
        refine hK _ ?_
        clear hK K
        refine wpFk_get rfl (by rfl) (fun K hK => ?_)
        refine ⟨_, fun w' hS' => get_load rfl rfl (RX.out _ (H5.out.next hS')), ?_⟩
        try go_simp
        refine hK _ ?_
        clear hK K
        refine wpFk_get rfl (by rfl) (fun K hK => ?_)
        refine ⟨?_, fun w' hS' => ?_, ?_⟩
        rotate_left
        · go_simp
          try (with_reducible rfl)
        try go_simp
        refine hK _ ?_
        clear hK K
        refine wpFk_get rfl (by rfl) (fun K hK => ?_)
        refine ⟨?_, fun w' hS' => ?_, ?_⟩
        rotate_left
        · go_simp
          try (with_reducible rfl)
        try go_simp
        refine hK _ ?_
        clear hK K
        refine wpFk_get rfl (by rfl) (fun K hK => ?_)
        refine ⟨?_, fun w' hS' => ?_, ?_⟩
        rotate_left
        · go_simp
          try (with_reducible rfl)
        try go_simp
        refine hK _ ?_
        clear hK K
        refine wpFk_get rfl (by rfl) (fun K hK => ?_)
        refine ⟨?_, fun w' hS' => ?_, ?_⟩
        rotate_left
        · go_simp
          try (with_reducible rfl)
        try go_simp
        refine hK _ ?_
        clear hK K
        refine wpFk_get rfl (by rfl) (fun K hK => ?_)
        refine ⟨_, fun w' hS' => get_load rfl rfl ((H5.out.next hS').h.read zH.out), ?_⟩
        try go_simp
        refine hK _ ?_
        clear hK K
        refine wpFk_get rfl (by rfl) (fun K hK => ?_)
        refine ⟨_, fun w' hS' => get_load rfl rfl ((H5.out.next hS').rt.read zR.out), ?_⟩
        try go_simp
        refine hK _ ?_
        clear hK K
        refine wpFk_fork ?_ ?_
        · refine wpFk_call rfl (by rfl) (fun K hK => ?_)
          refine wp_appendC (.const (.slice none 0 0)) (.tmp 54) rfl w5.heap.size P rfl Ap q cp rfl hq.out hPh.out (HP5.out.next HS.out) hqsm.out HS.out.size ?_
          intro v1 w6 ho hg
          have HO : Hid (w6.ownsRow w5.heap.size 31 32 v1 q (cellsL P)) := Lib.hid ho
          replace HS := Lib.hid (HS.out.grown hg HS.out.size (by intro k hk; simp at hk))
          clear ho hg
          try go_simp
          refine hK _ _ HS.out ?_
          clear hK K
          refine wpFk_call rfl (by rfl) (fun K hK => ?_)
          refine wp_buildOne (.tmp 56) rfl H rfl zH.out ?_
          have HRt := Lib.hid (Row.made w6 31 H)
          replace HO := Lib.hid (own_below HO.out ((Below.refl w6.heap.size w6).alloc (Nat.le_refl _) (.cells H 31)))
          replace HS := Lib.hid (HS.out.alloc HS.out.size (.cells H 31))
          try go_simp
          refine hK _ _ HS.out ?_
          clear hK K
          refine wpFk_call rfl (by rfl) (fun K hK => ?_)
          refine wp_appendH (.tmp 55) (.tmp 57) rfl w5.heap.size v1 q P [h] rfl HO.out _ 1 1 rfl rfl (fun l hl => by rw [List.mem_singleton.1 hl]; exact HH32.out) (HL.row (by rw [← hH.out]; exact HRt.out) HH32.out.1) hqsm1.out HS.out.size ?_
          intro v2 w7 ho hg
          obtain ⟨A2, c2, rfl⟩ := own_form ho
          have HP7 : Hid (HW w7 A2 (P ++ [h])) := Lib.hid (own_HL (by rw [hPl.out]; exact ho) (hashes_snoc hPh.out HH32.out))
          have HC2 : Hid (q + 1 ≤ c2 ∧ c2 ≤ maxLen) := Lib.hid ⟨(own_some ho).1, by have := (own_some ho).2.1; unfold maxLen; omega⟩
          replace HS := Lib.hid (HS.out.grown hg HS.out.size (fun k hk => (HO.out.lt k hk).1))
          clear ho hg
          try go_simp
          refine hK _ _ HS.out ?_
          clear hK K
          refine wpFk_call rfl (by rfl) (fun K hK => ?_)
          go_simp
          go_at_call 34
          refine (C3.out _ _ _ HS.out HP7.out HC2.out).mono ?_
          rintro e w2x ⟨rfl, hb⟩
          replace HS := Lib.hid (below_new HS.out hb)
          clear hb
          refine hK _ _ HS.out ?_
          clear hK K
          refine wpFk_get rfl (by rfl) (fun K hK => ?_)
          refine ⟨?_, fun w' hS' => ?_, ?_⟩
          rotate_left
          · go_simp
            try (with_reducible rfl)
          try go_simp
          refine hK _ ?_
          clear hK K
          refine wpFk_done ?_
          refine HQ.out _ _ ?_
          go_upto_region 12 with fail
          refine world_gen (fun W => BkH w w1.heap.size H R (some ad) ls W ∧ HW W Ap P) ⟨H5.out.next HS.out, HP5.out.next HS.out⟩ (fun w8 H8 => ?_)
          have H4 := Lib.hid H8.1
          have HP4 := Lib.hid H8.2
          clear HS HQ H8
          by_cases hq0 : q = 0
          · have e1 : ((q : Int) > 0) = False := by rw [hq0]; simp
            have e2 : decide (0 < (q : Int)) = false := decide_eq_false (by omega)
            have e3 : ¬ (0 : Int) < (q : Int) := by omega
            have e31 : decide (0 < q) = false := decide_eq_false (by omega)
            have e32 : ¬ 0 < q := by omega
            clear hq0
            refine wp_region_fk (Below w8.heap.size w8) (.get 0 (.get 1 (.get 2 (.get 3 (.get 4 (.get 5 (.get 6 (.get 7 (.get 8 (.get 9 (.get 10 (.get 11 (.get 12 (.get 13 (.get 14 (.get 15 (.get 16 (.get 17 (.get 18 (.get 19 (.get 20 (.get 21 (.get 22 (.get 23 (.get 24 (.get 25 (.get 26 (.get 27 (.get 28 (.get 29 (.get 30 (.get 31 (.get 32 (.get 33 .done)))))))))))))))))))))))))))))))))) (by kernel_rfl) rfl (by kernel_rfl) (by kernel_rfl) (by intro c a d v w h; cases d <;> exact h) (Below.refl w8.heap.size w8).drew (fun Q' hQ => ?_)
            have HS := Lib.hid (Below.refl w8.heap.size w8).drew
            have HQ := Lib.hid hQ
            clear hQ
            refine wpFk_get rfl (by rfl) (fun K hK => ?_)
            refine ⟨?_, fun w' hS' => ?_, ?_⟩
            rotate_left
            · go_simp
              try (with_reducible rfl)
            try go_simp
            refine hK _ ?_
            clear hK K
            refine wpFk_get rfl (by rfl) (fun K hK => ?_)
            refine ⟨?_, fun w' hS' => ?_, ?_⟩
            rotate_left
            · go_simp
              try (with_reducible rfl)
            try go_simp
            refine hK _ ?_
            clear hK K
            refine wpFk_get rfl (by rfl) (fun K hK => ?_)
            refine ⟨?_, fun w' hS' => ?_, ?_⟩
            rotate_left
            · go_simp
              try (with_reducible rfl)
            try go_simp
            refine hK _ ?_
            clear hK K
            refine wpFk_get rfl (by rfl) (fun K hK => ?_)
            refine ⟨?_, fun w' hS' => ?_, ?_⟩
            rotate_left
            · go_simp
              try (with_reducible rfl)
            try go_simp
            refine hK _ ?_
            clear hK K
            refine wpFk_skip rfl (by rfl) (fun K hK => ?_)
            try go_simp
            refine hK _ ?_
            clear hK K
            refine wpFk_skip rfl (by rfl) (fun K hK => ?_)
            try go_simp
            refine hK _ ?_
            clear hK K
            refine wpFk_skip rfl (by rfl) (fun K hK => ?_)
            try go_simp
            refine hK _ ?_
            clear hK K
            refine wpFk_skip rfl (by rfl) (fun K hK => ?_)
            try go_simp
            refine hK _ ?_
            clear hK K
            refine wpFk_skip rfl (by rfl) (fun K hK => ?_)
            try go_simp
            refine hK _ ?_
            clear hK K
            refine wpFk_skip rfl (by rfl) (fun K hK => ?_)
            try go_simp
            refine hK _ ?_
            clear hK K
            refine wpFk_skip rfl (by rfl) (fun K hK => ?_)
            try go_simp
            refine hK _ ?_
            clear hK K
            refine wpFk_skip rfl (by rfl) (fun K hK => ?_)
            try go_simp
            refine hK _ ?_
            clear hK K
            refine wpFk_skip rfl (by rfl) (fun K hK => ?_)
            try go_simp
            refine hK _ ?_
            clear hK K
            refine wpFk_skip rfl (by rfl) (fun K hK => ?_)
            try go_simp
            refine hK _ ?_
            clear hK K
            refine wpFk_skip rfl (by rfl) (fun K hK => ?_)
            try go_simp
            refine hK _ ?_
            clear hK K
            refine wpFk_skip rfl (by rfl) (fun K hK => ?_)
            try go_simp
            refine hK _ ?_
            clear hK K
            refine wpFk_skip rfl (by rfl) (fun K hK => ?_)
            try go_simp
            refine hK _ ?_
            clear hK K
            refine wpFk_skip rfl (by rfl) (fun K hK => ?_)
            try go_simp
            refine hK _ ?_
            clear hK K
            refine wpFk_skip rfl (by rfl) (fun K hK => ?_)
            try go_simp
            refine hK _ ?_
            clear hK K
            refine wpFk_skip rfl (by rfl) (fun K hK => ?_)
            try go_simp
            refine hK _ ?_
            clear hK K
            refine wpFk_skip rfl (by rfl) (fun K hK => ?_)
            try go_simp
            refine hK _ ?_
            clear hK K
            refine wpFk_skip rfl (by rfl) (fun K hK => ?_)
            try go_simp
            refine hK _ ?_
            clear hK K
            refine wpFk_skip rfl (by rfl) (fun K hK => ?_)
            try go_simp
            refine hK _ ?_
            clear hK K
            refine wpFk_skip rfl (by rfl) (fun K hK => ?_)
            try go_simp
            refine hK _ ?_
            clear hK K
            refine wpFk_skip rfl (by rfl) (fun K hK => ?_)
            try go_simp
            refine hK _ ?_
            clear hK K
            refine wpFk_skip rfl (by rfl) (fun K hK => ?_)
            try go_simp
            refine hK _ ?_
            clear hK K
            refine wpFk_skip rfl (by rfl) (fun K hK => ?_)
            try go_simp
            refine hK _ ?_
            clear hK K
            refine wpFk_skip rfl (by rfl) (fun K hK => ?_)
            try go_simp
            refine hK _ ?_
            clear hK K
            refine wpFk_skip rfl (by rfl) (fun K hK => ?_)
            try go_simp
            refine hK _ ?_
            clear hK K
            refine wpFk_skip rfl (by rfl) (fun K hK => ?_)
            try go_simp
            refine hK _ ?_
            clear hK K
            refine wpFk_skip rfl (by rfl) (fun K hK => ?_)
            try go_simp
            refine hK _ ?_
            clear hK K
            refine wpFk_skip rfl (by rfl) (fun K hK => ?_)
            try go_simp
            refine hK _ ?_
            clear hK K
            refine wpFk_skip rfl (by rfl) (fun K hK => ?_)
            try go_simp
            refine hK _ ?_
            clear hK K
            refine wpFk_get rfl (by rfl) (fun K hK => ?_)
            refine ⟨?_, fun w' hS' => ?_, ?_⟩
            rotate_left
            · go_simp
              try (with_reducible rfl)
            try go_simp
            refine hK _ ?_
            clear hK K
            refine wpFk_done ?_
            refine HQ.out _ _ ?_
            go_wp2
            go_roundw
            case rel => exact ⟨i + 1, by go_num, by omega, Lib.hid (H4.out.next HS.out)⟩
            case measure => simp [intOf]; omega
          · have e2 : decide (0 < (q : Int)) = true := decide_eq_true (by omega)
            have e3 : (0 : Int) < (q : Int) := by omega
            have e31 : decide (0 < q) = true := decide_eq_true (by omega)
            have e32 : 0 < q := by omega
            obtain ⟨m, hm⟩ : ∃ m : Nat, Hid (q = m + 1) := ⟨q - 1, Lib.hid (by omega)⟩
            have e4 : (q : Int) - 1 = (m : Int) := by have := hm.out; omega
            have e5 : ((q : Int) - 1).toNat = m := by have := hm.out; omega
            have e6 : ((cp : Int) - 1).toNat = cp - 1 := by omega
            have e7 : (1 : Int) ≤ (q : Int) := by omega
            have e8 : (1 : Int) ≤ (cp : Int) := by omega
            have e9 : (q : Int) ≤ (cp : Int) := by omega
            have e10 : (m : Int) ≤ (cp : Int) := by omega
            have e11 : (m : Int) ≤ (q : Int) := by have := hm.out; omega
            have e12 : IntKind.i64.wrap (m : Int) = (m : Int) := by rw [IntKind.wrap_i64]; omega
            obtain ⟨pd, rfl⟩ := HP4.out.some 0 (by rw [← hq.out]; omega)
            obtain ⟨AX, eAX⟩ : ∃ Z, (if cp = 1 then some pd else some ⟨pd.block, pd.off + 32, none⟩) = Z := ⟨_, rfl⟩
            have e13 : q - 1 = m := by have := hm.out; omega
            have ld : (P.drop 1).length = m := by rw [List.length_drop, ← hq.out, hm.out]; omega
            have lt : (P.take m).length = m := by rw [List.length_take, ← hq.out, hm.out]; omega
            have C4 : Hid (∀ W, Below w8.heap.size w8 W → Calls Tryd.prog 34 #[.agg X, .int .i64 (i : Int), .int .i64 (n : Int), .slice AX m (cp - 1), .agg R] W fun e w' => e = .returned (.int .i64 80) ∧ Below W.heap.size W w') := Lib.hid fun W hW => by
              have h1 : HL W W.heap.size AX (P.drop 1) := by
                have h0 := HL.rest (HP4.out.next hW) cp 1 (by rw [← hq.out]; exact hcp2)
                rw [show pd.add (1 * 32) = ⟨pd.block, pd.off + 32, none⟩ from rfl] at h0
                rw [← eAX]; exact h0
              have := CK.out W AX (cp - 1) i (P.drop 1) X 80 hlt h1 (H4.out.next hW).tab (hashes_drop hPh.out 1) (by rw [ld]; have := hm.out; omega) (by have := HCP.out.2; omega) hX.out (KN.out _ (by rw [ld, hm.out]; omega))
              rwa [ld] at this
            have C5 : Hid (∀ W, Below w8.heap.size w8 W → Calls Tryd.prog 34 #[.agg X, .int .i64 (i : Int), .int .i64 (n : Int), .slice (some pd) m cp, .agg R] W fun e w' => e = .returned (.int .i64 80) ∧ Below W.heap.size W w') := Lib.hid fun W hW => by
              have := CK.out W (some pd) cp i (P.take m) X 80 hlt (HL.take (HP4.out.next hW) m) (H4.out.next hW).tab (hashes_take hPh.out m) (by rw [lt]; have := hm.out; omega) HCP.out.2 hX.out (KN.out _ (by rw [lt, hm.out]; omega))
              rwa [lt] at this
            clear ld lt
            refine wp_region_fk (Below w8.heap.size w8) (.get 0 (.get 1 (.get 2 (.get 3 (.get 4 (.get 5 (.get 6 (.get 7 (.get 8 (.get 9 (.get 10 (.get 11 (.get 12 (.get 13 (.call 14 (.get 15 (.get 16 (.get 17 (.get 18 (.get 19 (.get 20 (.get 21 (.get 22 (.get 23 (.get 24 (.get 25 (.get 26 (.get 27 (.get 28 (.get 29 (.call 30 (.get 31 (.get 32 (.get 33 .done)))))))))))))))))))))))))))))))))) (by kernel_rfl) rfl (by kernel_rfl) (by kernel_rfl) (by intro c a d v w h; cases d <;> exact h) (Below.refl w8.heap.size w8).drew (fun Q' hQ => ?_)
            have HS := Lib.hid (Below.refl w8.heap.size w8).drew
            have HQ := Lib.hid hQ
            clear hQ
            refine wpFk_get rfl (by rfl) (fun K hK => ?_)
            refine ⟨?_, fun w' hS' => ?_, ?_⟩
            rotate_left
            · go_simp
              try (with_reducible rfl)
            try go_simp
            refine hK _ ?_
            clear hK K
            refine wpFk_get rfl (by rfl) (fun K hK => ?_)
            refine ⟨?_, fun w' hS' => ?_, ?_⟩
            rotate_left
            · go_simp
              try (with_reducible rfl)
            try go_simp
            refine hK _ ?_
            clear hK K
            refine wpFk_get rfl (by rfl) (fun K hK => ?_)
            refine ⟨?_, fun w' hS' => ?_, ?_⟩
            rotate_left
            · go_simp
              try (with_reducible rfl)
            try go_simp
            refine hK _ ?_
            clear hK K
            refine wpFk_get rfl (by rfl) (fun K hK => ?_)
            refine ⟨?_, fun w' hS' => ?_, ?_⟩
            rotate_left
            · go_simp
              try (with_reducible rfl)
            try go_simp
            refine hK _ ?_
            clear hK K
            refine wpFk_get rfl (by rfl) (fun K hK => ?_)
            refine ⟨?_, fun w' hS' => ?_, ?_⟩
            rotate_left
            · go_simp
              try (with_reducible rfl)
            try go_simp
            refine hK _ ?_
            clear hK K
            refine wpFk_get rfl (by rfl) (fun K hK => ?_)
            refine ⟨?_, fun w' hS' => ?_, ?_⟩
            rotate_left
            · go_simp
              try (with_reducible rfl)
            try go_simp
            refine hK _ ?_
            clear hK K
            refine wpFk_get rfl (by rfl) (fun K hK => ?_)
            refine ⟨?_, fun w' hS' => ?_, ?_⟩
            rotate_left
            · go_simp
              try (with_reducible rfl)
            try go_simp
            refine hK _ ?_
            clear hK K
            refine wpFk_get rfl (by rfl) (fun K hK => ?_)
            refine ⟨_, fun w' hS' => get_load rfl rfl (RX.out _ (H4.out.next hS')), ?_⟩
            try go_simp
            refine hK _ ?_
            clear hK K
            refine wpFk_get rfl (by rfl) (fun K hK => ?_)
            refine ⟨?_, fun w' hS' => ?_, ?_⟩
            rotate_left
            · go_simp
              try (with_reducible rfl)
            try go_simp
            refine hK _ ?_
            clear hK K
            refine wpFk_get rfl (by rfl) (fun K hK => ?_)
            refine ⟨?_, fun w' hS' => ?_, ?_⟩
            rotate_left
            · go_simp
              try (with_reducible rfl)
            try go_simp
            refine hK _ ?_
            clear hK K
            refine wpFk_get rfl (by rfl) (fun K hK => ?_)
            refine ⟨?_, fun w' hS' => ?_, ?_⟩
            rotate_left
            · go_simp
              try (with_reducible rfl)
            try go_simp
            refine hK _ ?_
            clear hK K
            refine wpFk_get rfl (by rfl) (fun K hK => ?_)
            refine ⟨?_, fun w' hS' => ?_, ?_⟩
            rotate_left
            · go_simp
              try (with_reducible rfl)
            try go_simp
            refine hK _ ?_
            clear hK K
            refine wpFk_get rfl (by rfl) (fun K hK => ?_)
            refine ⟨?_, fun w' hS' => ?_, ?_⟩
            rotate_left
            · go_simp
              try (with_reducible rfl)
            try go_simp
            refine hK _ ?_
            clear hK K
            refine wpFk_get rfl (by rfl) (fun K hK => ?_)
            refine ⟨_, fun w' hS' => get_load rfl rfl ((H4.out.next hS').rt.read zR.out), ?_⟩
            try go_simp
            refine hK _ ?_
            clear hK K
            refine wpFk_call rfl (by rfl) (fun K hK => ?_)
            go_simp
            go_at_call 34
            refine (C4.out _ HS.out).mono ?_
            rintro e w2x ⟨rfl, hb⟩
            replace HS := Lib.hid (below_new HS.out hb)
            clear hb
            refine hK _ _ HS.out ?_
            clear hK K
            refine wpFk_get rfl (by rfl) (fun K hK => ?_)
            refine ⟨?_, fun w' hS' => ?_, ?_⟩
            rotate_left
            · go_simp
              try (with_reducible rfl)
            try go_simp
            refine hK _ ?_
            clear hK K
            refine wpFk_get rfl (by rfl) (fun K hK => ?_)
            refine ⟨?_, fun w' hS' => ?_, ?_⟩
            rotate_left
            · go_simp
              try (with_reducible rfl)
            try go_simp
            refine hK _ ?_
            clear hK K
            refine wpFk_get rfl (by rfl) (fun K hK => ?_)
            refine ⟨?_, fun w' hS' => ?_, ?_⟩
            rotate_left
            · go_simp
              try (with_reducible rfl)
            try go_simp
            refine hK _ ?_
            clear hK K
            refine wpFk_get rfl (by rfl) (fun K hK => ?_)
            refine ⟨?_, fun w' hS' => ?_, ?_⟩
            rotate_left
            · go_simp
              try (with_reducible rfl)
            try go_simp
            refine hK _ ?_
            clear hK K
            refine wpFk_get rfl (by rfl) (fun K hK => ?_)
            refine ⟨?_, fun w' hS' => ?_, ?_⟩
            rotate_left
            · go_simp
              try (with_reducible rfl)
            try go_simp
            refine hK _ ?_
            clear hK K
            refine wpFk_get rfl (by rfl) (fun K hK => ?_)
            refine ⟨_, fun w' hS' => get_load rfl rfl (RX.out _ (H4.out.next hS')), ?_⟩
            try go_simp
            refine hK _ ?_
            clear hK K
            refine wpFk_get rfl (by rfl) (fun K hK => ?_)
            refine ⟨?_, fun w' hS' => ?_, ?_⟩
            rotate_left
            · go_simp
              try (with_reducible rfl)
            try go_simp
            refine hK _ ?_
            clear hK K
            refine wpFk_get rfl (by rfl) (fun K hK => ?_)
            refine ⟨?_, fun w' hS' => ?_, ?_⟩
            rotate_left
            · go_simp
              try (with_reducible rfl)
            try go_simp
            refine hK _ ?_
            clear hK K
            refine wpFk_get rfl (by rfl) (fun K hK => ?_)
            refine ⟨?_, fun w' hS' => ?_, ?_⟩
            rotate_left
            · go_simp
              try (with_reducible rfl)
            try go_simp
            refine hK _ ?_
            clear hK K
            refine wpFk_get rfl (by rfl) (fun K hK => ?_)
            refine ⟨?_, fun w' hS' => ?_, ?_⟩
            rotate_left
            · go_simp
              try (with_reducible rfl)
            try go_simp
            refine hK _ ?_
            clear hK K
            refine wpFk_get rfl (by rfl) (fun K hK => ?_)
            refine ⟨?_, fun w' hS' => ?_, ?_⟩
            rotate_left
            · go_simp
              try (with_reducible rfl)
            try go_simp
            refine hK _ ?_
            clear hK K
            refine wpFk_get rfl (by rfl) (fun K hK => ?_)
            refine ⟨?_, fun w' hS' => ?_, ?_⟩
            rotate_left
            · go_simp
              try (with_reducible rfl)
            try go_simp
            refine hK _ ?_
            clear hK K
            refine wpFk_get rfl (by rfl) (fun K hK => ?_)
            refine ⟨?_, fun w' hS' => ?_, ?_⟩
            rotate_left
            · go_simp
              try (with_reducible rfl)
            try go_simp
            refine hK _ ?_
            clear hK K
            refine wpFk_get rfl (by rfl) (fun K hK => ?_)
            refine ⟨?_, fun w' hS' => ?_, ?_⟩
            rotate_left
            · go_simp
              try (with_reducible rfl)
            try go_simp
            refine hK _ ?_
            clear hK K
            refine wpFk_get rfl (by rfl) (fun K hK => ?_)
            refine ⟨_, fun w' hS' => get_load rfl rfl ((H4.out.next hS').rt.read zR.out), ?_⟩
            try go_simp
            refine hK _ ?_
            clear hK K
            refine wpFk_call rfl (by rfl) (fun K hK => ?_)
            go_simp
            go_at_call 34
            refine (C5.out _ HS.out).mono ?_
            rintro e w2x ⟨rfl, hb⟩
            replace HS := Lib.hid (below_new HS.out hb)
            clear hb
            refine hK _ _ HS.out ?_
            clear hK K
            refine wpFk_get rfl (by rfl) (fun K hK => ?_)
            refine ⟨?_, fun w' hS' => ?_, ?_⟩
            rotate_left
            · go_simp
              try (with_reducible rfl)
            try go_simp
            refine hK _ ?_
            clear hK K
            refine wpFk_get rfl (by rfl) (fun K hK => ?_)
            refine ⟨?_, fun w' hS' => ?_, ?_⟩
            rotate_left
            · go_simp
              try (with_reducible rfl)
            try go_simp
            refine hK _ ?_
            clear hK K
            refine wpFk_get rfl (by rfl) (fun K hK => ?_)
            refine ⟨?_, fun w' hS' => ?_, ?_⟩
            rotate_left
            · go_simp
              try (with_reducible rfl)
            try go_simp
            refine hK _ ?_
            clear hK K
            refine wpFk_done ?_
            refine HQ.out _ _ ?_
            go_wp2
            go_roundw
            case rel => exact ⟨i + 1, by go_num, by omega, Lib.hid (H4.out.next HS.out)⟩
            case measure => simp [intOf]; omega
        · refine wpFk_call rfl (by rfl) (fun K hK => ?_)
          refine wp_buildOne (.tmp 56) rfl H rfl zH.out ?_
          have HRt := Lib.hid (Row.made w5.drew 31 H)
          replace HS := Lib.hid (HS.out.alloc HS.out.size (.cells H 31))
          try go_simp
          refine hK _ _ HS.out ?_
          clear hK K
          refine wpFk_call rfl (by rfl) (fun K hK => ?_)
          refine wp_appendC (.const (.slice none 0 0)) (.tmp 54) rfl w5.heap.size P rfl Ap q cp rfl hq.out hPh.out (HP5.out.next HS.out) hqsm.out HS.out.size ?_
          intro v1 w6 ho hg
          have HO : Hid (w6.ownsRow w5.heap.size 31 32 v1 q (cellsL P)) := Lib.hid ho
          replace HRt := Lib.hid (HRt.out.grown hg (by simp))
          replace HS := Lib.hid (HS.out.grown hg HS.out.size (by intro k hk; simp at hk))
          clear ho hg
          try go_simp
          refine hK _ _ HS.out ?_
          clear hK K
          refine wpFk_call rfl (by rfl) (fun K hK => ?_)
          refine wp_appendH (.tmp 55) (.tmp 57) rfl w5.heap.size v1 q P [h] rfl HO.out _ 1 1 rfl rfl (fun l hl => by rw [List.mem_singleton.1 hl]; exact HH32.out) (HL.row (by rw [← hH.out]; exact HRt.out) HH32.out.1) hqsm1.out HS.out.size ?_
          intro v2 w7 ho hg
          obtain ⟨A2, c2, rfl⟩ := own_form ho
          have HP7 : Hid (HW w7 A2 (P ++ [h])) := Lib.hid (own_HL (by rw [hPl.out]; exact ho) (hashes_snoc hPh.out HH32.out))
          have HC2 : Hid (q + 1 ≤ c2 ∧ c2 ≤ maxLen) := Lib.hid ⟨(own_some ho).1, by have := (own_some ho).2.1; unfold maxLen; omega⟩
          replace HS := Lib.hid (HS.out.grown hg HS.out.size (fun k hk => (HO.out.lt k hk).1))
          clear ho hg
          try go_simp
          refine hK _ _ HS.out ?_
          clear hK K
          refine wpFk_call rfl (by rfl) (fun K hK => ?_)
          go_simp
          go_at_call 34
          refine (C3.out _ _ _ HS.out HP7.out HC2.out).mono ?_
          rintro e w2x ⟨rfl, hb⟩
          replace HS := Lib.hid (below_new HS.out hb)
          clear hb
          refine hK _ _ HS.out ?_
          clear hK K
          refine wpFk_get rfl (by rfl) (fun K hK => ?_)
          refine ⟨?_, fun w' hS' => ?_, ?_⟩
          rotate_left
          · go_simp
            try (with_reducible rfl)
          try go_simp
          refine hK _ ?_
          clear hK K
          refine wpFk_done ?_
          refine HQ.out _ _ ?_
          go_upto_region 12 with fail
          refine world_gen (fun W => BkH w w1.heap.size H R (some ad) ls W ∧ HW W Ap P) ⟨H5.out.next HS.out, HP5.out.next HS.out⟩ (fun w8 H8 => ?_)
          have H4 := Lib.hid H8.1
          have HP4 := Lib.hid H8.2
          clear HS HQ H8
          by_cases hq0 : q = 0
          · have e1 : ((q : Int) > 0) = False := by rw [hq0]; simp
            have e2 : decide (0 < (q : Int)) = false := decide_eq_false (by omega)
            have e3 : ¬ (0 : Int) < (q : Int) := by omega
            have e31 : decide (0 < q) = false := decide_eq_false (by omega)
            have e32 : ¬ 0 < q := by omega
            clear hq0
            refine wp_region_fk (Below w8.heap.size w8) (.get 0 (.get 1 (.get 2 (.get 3 (.get 4 (.get 5 (.get 6 (.get 7 (.get 8 (.get 9 (.get 10 (.get 11 (.get 12 (.get 13 (.get 14 (.get 15 (.get 16 (.get 17 (.get 18 (.get 19 (.get 20 (.get 21 (.get 22 (.get 23 (.get 24 (.get 25 (.get 26 (.get 27 (.get 28 (.get 29 (.get 30 (.get 31 (.get 32 (.get 33 .done)))))))))))))))))))))))))))))))))) (by kernel_rfl) rfl (by kernel_rfl) (by kernel_rfl) (by intro c a d v w h; cases d <;> exact h) (Below.refl w8.heap.size w8).drew (fun Q' hQ => ?_)
            have HS := Lib.hid (Below.refl w8.heap.size w8).drew
            have HQ := Lib.hid hQ
            clear hQ
            refine wpFk_get rfl (by rfl) (fun K hK => ?_)
            refine ⟨?_, fun w' hS' => ?_, ?_⟩
            rotate_left
            · go_simp
              try (with_reducible rfl)
            try go_simp
            refine hK _ ?_
            clear hK K
            refine wpFk_get rfl (by rfl) (fun K hK => ?_)
            refine ⟨?_, fun w' hS' => ?_, ?_⟩
            rotate_left
            · go_simp
              try (with_reducible rfl)
            try go_simp
            refine hK _ ?_
            clear hK K
            refine wpFk_get rfl (by rfl) (fun K hK => ?_)
            refine ⟨?_, fun w' hS' => ?_, ?_⟩
            rotate_left
            · go_simp
              try (with_reducible rfl)
            try go_simp
            refine hK _ ?_
            clear hK K
            refine wpFk_get rfl (by rfl) (fun K hK => ?_)
            refine ⟨?_, fun w' hS' => ?_, ?_⟩
            rotate_left
            · go_simp
              try (with_reducible rfl)
            try go_simp
            refine hK _ ?_
            clear hK K
            refine wpFk_skip rfl (by rfl) (fun K hK => ?_)
            try go_simp
            refine hK _ ?_
            clear hK K
            refine wpFk_skip rfl (by rfl) (fun K hK => ?_)
            try go_simp
            refine hK _ ?_
            clear hK K
            refine wpFk_skip rfl (by rfl) (fun K hK => ?_)
            try go_simp
            refine hK _ ?_
            clear hK K
            refine wpFk_skip rfl (by rfl) (fun K hK => ?_)
            try go_simp
            refine hK _ ?_
            clear hK K
            refine wpFk_skip rfl (by rfl) (fun K hK => ?_)
            try go_simp
            refine hK _ ?_
            clear hK K
            refine wpFk_skip rfl (by rfl) (fun K hK => ?_)
            try go_simp
            refine hK _ ?_
            clear hK K
            refine wpFk_skip rfl (by rfl) (fun K hK => ?_)
            try go_simp
            refine hK _ ?_
            clear hK K
            refine wpFk_skip rfl (by rfl) (fun K hK => ?_)
            try go_simp
            refine hK _ ?_
            clear hK K
            refine wpFk_skip rfl (by rfl) (fun K hK => ?_)
            try go_simp
            refine hK _ ?_
            clear hK K
            refine wpFk_skip rfl (by rfl) (fun K hK => ?_)
            try go_simp
            refine hK _ ?_
            clear hK K
            refine wpFk_skip rfl (by rfl) (fun K hK => ?_)
            try go_simp
            refine hK _ ?_
            clear hK K
            refine wpFk_skip rfl (by rfl) (fun K hK => ?_)
            try go_simp
            refine hK _ ?_
            clear hK K
            refine wpFk_skip rfl (by rfl) (fun K hK => ?_)
            try go_simp
            refine hK _ ?_
            clear hK K
            refine wpFk_skip rfl (by rfl) (fun K hK => ?_)
            try go_simp
            refine hK _ ?_
            clear hK K
            refine wpFk_skip rfl (by rfl) (fun K hK => ?_)
            try go_simp
            refine hK _ ?_
            clear hK K
            refine wpFk_skip rfl (by rfl) (fun K hK => ?_)
            try go_simp
            refine hK _ ?_
            clear hK K
            refine wpFk_skip rfl (by rfl) (fun K hK => ?_)
            try go_simp
            refine hK _ ?_
            clear hK K
            refine wpFk_skip rfl (by rfl) (fun K hK => ?_)
            try go_simp
            refine hK _ ?_
            clear hK K
            refine wpFk_skip rfl (by rfl) (fun K hK => ?_)
            try go_simp
            refine hK _ ?_
            clear hK K
            refine wpFk_skip rfl (by rfl) (fun K hK => ?_)
            try go_simp
            refine hK _ ?_
            clear hK K
            refine wpFk_skip rfl (by rfl) (fun K hK => ?_)
            try go_simp
            refine hK _ ?_
            clear hK K
            refine wpFk_skip rfl (by rfl) (fun K hK => ?_)
            try go_simp
            refine hK _ ?_
            clear hK K
            refine wpFk_skip rfl (by rfl) (fun K hK => ?_)
            try go_simp
            refine hK _ ?_
            clear hK K
            refine wpFk_skip rfl (by rfl) (fun K hK => ?_)
            try go_simp
            refine hK _ ?_
            clear hK K
            refine wpFk_skip rfl (by rfl) (fun K hK => ?_)
            try go_simp
            refine hK _ ?_
            clear hK K
            refine wpFk_skip rfl (by rfl) (fun K hK => ?_)
            try go_simp
            refine hK _ ?_
            clear hK K
            refine wpFk_skip rfl (by rfl) (fun K hK => ?_)
            try go_simp
            refine hK _ ?_
            clear hK K
            refine wpFk_skip rfl (by rfl) (fun K hK => ?_)
            try go_simp
            refine hK _ ?_
            clear hK K
            refine wpFk_skip rfl (by rfl) (fun K hK => ?_)
            try go_simp
            refine hK _ ?_
            clear hK K
            refine wpFk_get rfl (by rfl) (fun K hK => ?_)
            refine ⟨?_, fun w' hS' => ?_, ?_⟩
            rotate_left
            · go_simp
              try (with_reducible rfl)
            try go_simp
            refine hK _ ?_
            clear hK K
            refine wpFk_done ?_
            refine HQ.out _ _ ?_
            go_wp2
            go_roundw
            case rel => exact ⟨i + 1, by go_num, by omega, Lib.hid (H4.out.next HS.out)⟩
            case measure => simp [intOf]; omega
          · have e2 : decide (0 < (q : Int)) = true := decide_eq_true (by omega)
            have e3 : (0 : Int) < (q : Int) := by omega
            have e31 : decide (0 < q) = true := decide_eq_true (by omega)
            have e32 : 0 < q := by omega
            obtain ⟨m, hm⟩ : ∃ m : Nat, Hid (q = m + 1) := ⟨q - 1, Lib.hid (by omega)⟩
            have e4 : (q : Int) - 1 = (m : Int) := by have := hm.out; omega
            have e5 : ((q : Int) - 1).toNat = m := by have := hm.out; omega
            have e6 : ((cp : Int) - 1).toNat = cp - 1 := by omega
            have e7 : (1 : Int) ≤ (q : Int) := by omega
            have e8 : (1 : Int) ≤ (cp : Int) := by omega
            have e9 : (q : Int) ≤ (cp : Int) := by omega
            have e10 : (m : Int) ≤ (cp : Int) := by omega
            have e11 : (m : Int) ≤ (q : Int) := by have := hm.out; omega
            have e12 : IntKind.i64.wrap (m : Int) = (m : Int) := by rw [IntKind.wrap_i64]; omega
            obtain ⟨pd, rfl⟩ := HP4.out.some 0 (by rw [← hq.out]; omega)
            obtain ⟨AX, eAX⟩ : ∃ Z, (if cp = 1 then some pd else some ⟨pd.block, pd.off + 32, none⟩) = Z := ⟨_, rfl⟩
            have e13 : q - 1 = m := by have := hm.out; omega
            have ld : (P.drop 1).length = m := by rw [List.length_drop, ← hq.out, hm.out]; omega
            have lt : (P.take m).length = m := by rw [List.length_take, ← hq.out, hm.out]; omega
            have C4 : Hid (∀ W, Below w8.heap.size w8 W → Calls Tryd.prog 34 #[.agg X, .int .i64 (i : Int), .int .i64 (n : Int), .slice AX m (cp - 1), .agg R] W fun e w' => e = .returned (.int .i64 80) ∧ Below W.heap.size W w') := Lib.hid fun W hW => by
              have h1 : HL W W.heap.size AX (P.drop 1) := by
                have h0 := HL.rest (HP4.out.next hW) cp 1 (by rw [← hq.out]; exact hcp2)
                rw [show pd.add (1 * 32) = ⟨pd.block, pd.off + 32, none⟩ from rfl] at h0
                rw [← eAX]; exact h0
              have := CK.out W AX (cp - 1) i (P.drop 1) X 80 hlt h1 (H4.out.next hW).tab (hashes_drop hPh.out 1) (by rw [ld]; have := hm.out; omega) (by have := HCP.out.2; omega) hX.out (KN.out _ (by rw [ld, hm.out]; omega))
              rwa [ld] at this
            have C5 : Hid (∀ W, Below w8.heap.size w8 W → Calls Tryd.prog 34 #[.agg X, .int .i64 (i : Int), .int .i64 (n : Int), .slice (some pd) m cp, .agg R] W fun e w' => e = .returned (.int .i64 80) ∧ Below W.heap.size W w') := Lib.hid fun W hW => by
              have := CK.out W (some pd) cp i (P.take m) X 80 hlt (HL.take (HP4.out.next hW) m) (H4.out.next hW).tab (hashes_take hPh.out m) (by rw [lt]; have := hm.out; omega) HCP.out.2 hX.out (KN.out _ (by rw [lt, hm.out]; omega))
              rwa [lt] at this
            clear ld lt
            refine wp_region_fk (Below w8.heap.size w8) (.get 0 (.get 1 (.get 2 (.get 3 (.get 4 (.get 5 (.get 6 (.get 7 (.get 8 (.get 9 (.get 10 (.get 11 (.get 12 (.get 13 (.call 14 (.get 15 (.get 16 (.get 17 (.get 18 (.get 19 (.get 20 (.get 21 (.get 22 (.get 23 (.get 24 (.get 25 (.get 26 (.get 27 (.get 28 (.get 29 (.call 30 (.get 31 (.get 32 (.get 33 .done)))))))))))))))))))))))))))))))))) (by kernel_rfl) rfl (by kernel_rfl) (by kernel_rfl) (by intro c a d v w h; cases d <;> exact h) (Below.refl w8.heap.size w8).drew (fun Q' hQ => ?_)
            have HS := Lib.hid (Below.refl w8.heap.size w8).drew
            have HQ := Lib.hid hQ
            clear hQ
            refine wpFk_get rfl (by rfl) (fun K hK => ?_)
            refine ⟨?_, fun w' hS' => ?_, ?_⟩
            rotate_left
            · go_simp
              try (with_reducible rfl)
            try go_simp
            refine hK _ ?_
            clear hK K
            refine wpFk_get rfl (by rfl) (fun K hK => ?_)
            refine ⟨?_, fun w' hS' => ?_, ?_⟩
            rotate_left
            · go_simp
              try (with_reducible rfl)
            try go_simp
            refine hK _ ?_
            clear hK K
            refine wpFk_get rfl (by rfl) (fun K hK => ?_)
            refine ⟨?_, fun w' hS' => ?_, ?_⟩
            rotate_left
            · go_simp
              try (with_reducible rfl)
            try go_simp
            refine hK _ ?_
            clear hK K
            refine wpFk_get rfl (by rfl) (fun K hK => ?_)
            refine ⟨?_, fun w' hS' => ?_, ?_⟩
            rotate_left
            · go_simp
              try (with_reducible rfl)
            try go_simp
            refine hK _ ?_
            clear hK K
            refine wpFk_get rfl (by rfl) (fun K hK => ?_)
            refine ⟨?_, fun w' hS' => ?_, ?_⟩
            rotate_left
            · go_simp
              try (with_reducible rfl)
            try go_simp
            refine hK _ ?_
            clear hK K
            refine wpFk_get rfl (by rfl) (fun K hK => ?_)
            refine ⟨?_, fun w' hS' => ?_, ?_⟩
            rotate_left
            · go_simp
              try (with_reducible rfl)
            try go_simp
            refine hK _ ?_
            clear hK K
            refine wpFk_get rfl (by rfl) (fun K hK => ?_)
            refine ⟨?_, fun w' hS' => ?_, ?_⟩
            rotate_left
            · go_simp
              try (with_reducible rfl)
            try go_simp
            refine hK _ ?_
            clear hK K
            refine wpFk_get rfl (by rfl) (fun K hK => ?_)
            refine ⟨_, fun w' hS' => get_load rfl rfl (RX.out _ (H4.out.next hS')), ?_⟩
            try go_simp
            refine hK _ ?_
            clear hK K
            refine wpFk_get rfl (by rfl) (fun K hK => ?_)
            refine ⟨?_, fun w' hS' => ?_, ?_⟩
            rotate_left
            · go_simp
              try (with_reducible rfl)
            try go_simp
            refine hK _ ?_
            clear hK K
            refine wpFk_get rfl (by rfl) (fun K hK => ?_)
            refine ⟨?_, fun w' hS' => ?_, ?_⟩
            rotate_left
            · go_simp
              try (with_reducible rfl)
            try go_simp
            refine hK _ ?_
            clear hK K
            refine wpFk_get rfl (by rfl) (fun K hK => ?_)
            refine ⟨?_, fun w' hS' => ?_, ?_⟩
            rotate_left
            · go_simp
              try (with_reducible rfl)
            try go_simp
            refine hK _ ?_
            clear hK K
            refine wpFk_get rfl (by rfl) (fun K hK => ?_)
            refine ⟨?_, fun w' hS' => ?_, ?_⟩
            rotate_left
            · go_simp
              try (with_reducible rfl)
            try go_simp
            refine hK _ ?_
            clear hK K
            refine wpFk_get rfl (by rfl) (fun K hK => ?_)
            refine ⟨?_, fun w' hS' => ?_, ?_⟩
            rotate_left
            · go_simp
              try (with_reducible rfl)
            try go_simp
            refine hK _ ?_
            clear hK K
            refine wpFk_get rfl (by rfl) (fun K hK => ?_)
            refine ⟨_, fun w' hS' => get_load rfl rfl ((H4.out.next hS').rt.read zR.out), ?_⟩
            try go_simp
            refine hK _ ?_
            clear hK K
            refine wpFk_call rfl (by rfl) (fun K hK => ?_)
            go_simp
            go_at_call 34
            refine (C4.out _ HS.out).mono ?_
            rintro e w2x ⟨rfl, hb⟩
            replace HS := Lib.hid (below_new HS.out hb)
            clear hb
            refine hK _ _ HS.out ?_
            clear hK K
            refine wpFk_get rfl (by rfl) (fun K hK => ?_)
            refine ⟨?_, fun w' hS' => ?_, ?_⟩
            rotate_left
            · go_simp
              try (with_reducible rfl)
            try go_simp
            refine hK _ ?_
            clear hK K
            refine wpFk_get rfl (by rfl) (fun K hK => ?_)
            refine ⟨?_, fun w' hS' => ?_, ?_⟩
            rotate_left
            · go_simp
              try (with_reducible rfl)
            try go_simp
            refine hK _ ?_
            clear hK K
            refine wpFk_get rfl (by rfl) (fun K hK => ?_)
            refine ⟨?_, fun w' hS' => ?_, ?_⟩
            rotate_left
            · go_simp
              try (with_reducible rfl)
            try go_simp
            refine hK _ ?_
            clear hK K
            refine wpFk_get rfl (by rfl) (fun K hK => ?_)
            refine ⟨?_, fun w' hS' => ?_, ?_⟩
            rotate_left
            · go_simp
              try (with_reducible rfl)
            try go_simp
            refine hK _ ?_
            clear hK K
            refine wpFk_get rfl (by rfl) (fun K hK => ?_)
            refine ⟨?_, fun w' hS' => ?_, ?_⟩
            rotate_left
            · go_simp
              try (with_reducible rfl)
            try go_simp
            refine hK _ ?_
            clear hK K
            refine wpFk_get rfl (by rfl) (fun K hK => ?_)
            refine ⟨_, fun w' hS' => get_load rfl rfl (RX.out _ (H4.out.next hS')), ?_⟩
            try go_simp
            refine hK _ ?_
            clear hK K
            refine wpFk_get rfl (by rfl) (fun K hK => ?_)
            refine ⟨?_, fun w' hS' => ?_, ?_⟩
            rotate_left
            · go_simp
              try (with_reducible rfl)
            try go_simp
            refine hK _ ?_
            clear hK K
            refine wpFk_get rfl (by rfl) (fun K hK => ?_)
            refine ⟨?_, fun w' hS' => ?_, ?_⟩
            rotate_left
            · go_simp
              try (with_reducible rfl)
            try go_simp
            refine hK _ ?_
            clear hK K
            refine wpFk_get rfl (by rfl) (fun K hK => ?_)
            refine ⟨?_, fun w' hS' => ?_, ?_⟩
            rotate_left
            · go_simp
              try (with_reducible rfl)
            try go_simp
            refine hK _ ?_
            clear hK K
            refine wpFk_get rfl (by rfl) (fun K hK => ?_)
            refine ⟨?_, fun w' hS' => ?_, ?_⟩
            rotate_left
            · go_simp
              try (with_reducible rfl)
            try go_simp
            refine hK _ ?_
            clear hK K
            refine wpFk_get rfl (by rfl) (fun K hK => ?_)
            refine ⟨?_, fun w' hS' => ?_, ?_⟩
            rotate_left
            · go_simp
              try (with_reducible rfl)
            try go_simp
            refine hK _ ?_
            clear hK K
            refine wpFk_get rfl (by rfl) (fun K hK => ?_)
            refine ⟨?_, fun w' hS' => ?_, ?_⟩
            rotate_left
            · go_simp
              try (with_reducible rfl)
            try go_simp
            refine hK _ ?_
            clear hK K
            refine wpFk_get rfl (by rfl) (fun K hK => ?_)
            refine ⟨?_, fun w' hS' => ?_, ?_⟩
            rotate_left
            · go_simp
              try (with_reducible rfl)
            try go_simp
            refine hK _ ?_
            clear hK K
            refine wpFk_get rfl (by rfl) (fun K hK => ?_)
            refine ⟨?_, fun w' hS' => ?_, ?_⟩
            rotate_left
            · go_simp
              try (with_reducible rfl)
            try go_simp
            refine hK _ ?_
            clear hK K
            refine wpFk_get rfl (by rfl) (fun K hK => ?_)
            refine ⟨_, fun w' hS' => get_load rfl rfl ((H4.out.next hS').rt.read zR.out), ?_⟩
            try go_simp
            refine hK _ ?_
            clear hK K
            refine wpFk_call rfl (by rfl) (fun K hK => ?_)
            go_simp
            go_at_call 34
            refine (C5.out _ HS.out).mono ?_
            rintro e w2x ⟨rfl, hb⟩
            replace HS := Lib.hid (below_new HS.out hb)
            clear hb
            refine hK _ _ HS.out ?_
            clear hK K
            refine wpFk_get rfl (by rfl) (fun K hK => ?_)
            refine ⟨?_, fun w' hS' => ?_, ?_⟩
            rotate_left
            · go_simp
              try (with_reducible rfl)
            try go_simp
            refine hK _ ?_
            clear hK K
            refine wpFk_get rfl (by rfl) (fun K hK => ?_)
            refine ⟨?_, fun w' hS' => ?_, ?_⟩
            rotate_left
            · go_simp
              try (with_reducible rfl)
            try go_simp
            refine hK _ ?_
            clear hK K
            refine wpFk_get rfl (by rfl) (fun K hK => ?_)
            refine ⟨?_, fun w' hS' => ?_, ?_⟩
            rotate_left
            · go_simp
              try (with_reducible rfl)
            try go_simp
            refine hK _ ?_
            clear hK K
            refine wpFk_done ?_
            refine HQ.out _ _ ?_
            go_wp2
            go_roundw
            case rel => exact ⟨i + 1, by go_num, by omega, Lib.hid (H4.out.next HS.out)⟩
            case measure => simp [intOf]; omega
      · go_wp2_with (go_at_call 31; (with_reducible refine (found_any _ HB.out.tab).mono ?_); rintro e w3 ⟨rfl, hb⟩; have HB1 := Lib.hid (below_new HB.out.below hb); clear hb)
        go_ret
        exact ⟨rfl, HB1.out⟩
end Go.Proofs.YtfakimbneenfdaaDoor
