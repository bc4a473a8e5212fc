/-
  The walk of the document's Check (layer 7): whether two sizes, two roots and a proof check. Condition: a list of hashes in memory. What it makes is new memory; nothing that was there changes.
-/
import Derived.Test.YtkjgkeigfebcmaaDoorProofCheck
import Derived.Test.YtkjgkeigfebcmaaDoorProofRefSays
import Derived.Test.YtkjgkeigfebcmaaDoorRefSum
namespace Go.Proofs.YtkjgkeigfebcmaaDoor
open Go.RowKit Go.Great
set_option linter.unusedVariables false
set_option maxRecDepth 100000

theorem holdsB_same {m : Nat} {older newer : List Int} {p : List (List Int)} (h : 1 ≤ m) : holdsB m m older newer p = (decide (p.length = 0) && decide (older = newer)) := by
  rw [holdsB_some h, valS_both, saysR_known (Nat.le_refl _), List.length_reverse]
  by_cases h0 : p.length = 0
  · rw [if_pos h0, decide_eq_true h0, Bool.true_and]
    refine decide_eq_decide.2 ⟨fun e => by cases e; rfl, fun e => by rw [e]⟩
  · rw [if_neg h0, decide_eq_false h0, Bool.false_and]
    exact decide_eq_false (by intro e; cases e)
attribute [local go_sem ↓ high] read_at write_at eq_at neq_at
set_option maxHeartbeats 16000000 in
theorem prefCheck_any (older newer : List Int) (ho : older.length = 32 ∧ bytes older) (hw : newer.length = 32 ∧ bytes newer) (m n : Int) (hm64 : -9223372036854775808 ≤ m ∧ m ≤ 9223372036854775807) (hn64 : -9223372036854775808 ≤ n ∧ n ≤ 9223372036854775807) (ps : List (List Int)) (hps : hashes ps) (A : Option Addr) (c : Nat) (w : World) (hA : HL w w.heap.size A ps) (hc : ps.length ≤ c) (hcm : c ≤ 9223372036854775807) :
    Calls Tryd.prog 12 #[.int .i64 m, .int .i64 n, .agg (nums .u8 older), .agg (nums .u8 newer), .slice A ps.length c] w fun e w' => e = .returned (.int .i64 (checkP m n older newer ps)) ∧ Below w.heap.size w w' := by
  obtain ⟨q, hq⟩ : ∃ q, Hid (q = ps.length) := ⟨_, Lib.hid rfl⟩
  obtain ⟨C, hC⟩ : ∃ C, Hid (C = nums .u8 older) := ⟨_, Lib.hid rfl⟩
  obtain ⟨D, hD⟩ : ∃ D, Hid (D = nums .u8 newer) := ⟨_, Lib.hid rfl⟩
  have zC : Hid (C.size = 32) := Lib.hid (by rw [hC.out, nums_size]; exact ho.1)
  have zD : Hid (D.size = 32) := Lib.hid (by rw [hD.out, nums_size]; exact hw.1)
  have H0 := Lib.hid (TwoH.start w C D)
  rw [← hq.out, ← hC.out, ← hD.out]
  by_cases h1 : n < 0
  · have d1 : decide (n < 0) = true := decide_eq_true h1
    have HF : Hid (checkP m n older newer ps = 2) := Lib.hid (checkP_arg (.inl h1))
    rw [HF.out]
    go_enter Tryd.func12, Tryd.ntmps12
    go_upto_region 1 with fail
    refine world_gen (fun X => TwoH w X C D) H0.out (fun X HX => ?_)
    have HX := Lib.hid HX
    go_wp2
    go_ret
    exact ⟨rfl, HX.out.below⟩
  have d1 : decide (n < 0) = false := decide_eq_false h1
  by_cases h2 : 4096 < n
  · have d2 : decide (4096 < n) = true := decide_eq_true h2
    have HF : Hid (checkP m n older newer ps = 2) := Lib.hid (checkP_arg (.inr (.inl h2)))
    rw [HF.out]
    go_enter Tryd.func12, Tryd.ntmps12
    go_upto_region 1 with fail
    refine world_gen (fun X => TwoH w X C D) H0.out (fun X HX => ?_)
    have HX := Lib.hid HX
    go_wp2
    go_ret
    exact ⟨rfl, HX.out.below⟩
  have d2 : decide (4096 < n) = false := decide_eq_false h2
  by_cases h3 : m < 0
  · have d3 : decide (m < 0) = true := decide_eq_true h3
    have HF : Hid (checkP m n older newer ps = 2) := Lib.hid (checkP_arg (.inr (.inr (.inl h3))))
    rw [HF.out]
    go_enter Tryd.func12, Tryd.ntmps12
    go_upto_region 1 with fail
    refine world_gen (fun X => TwoH w X C D) H0.out (fun X HX => ?_)
    have HX := Lib.hid HX
    go_wp2
    go_ret
    exact ⟨rfl, HX.out.below⟩
  have d3 : decide (m < 0) = false := decide_eq_false h3
  by_cases h4 : n < m
  · have d4 : decide (n < m) = true := decide_eq_true h4
    have HF : Hid (checkP m n older newer ps = 2) := Lib.hid (checkP_arg (.inr (.inr (.inr h4))))
    rw [HF.out]
    go_enter Tryd.func12, Tryd.ntmps12
    go_upto_region 1 with fail
    refine world_gen (fun X => TwoH w X C D) H0.out (fun X HX => ?_)
    have HX := Lib.hid HX
    go_wp2
    go_ret
    exact ⟨rfl, HX.out.below⟩
  obtain ⟨M, rfl⟩ : ∃ M : Nat, m = M := ⟨m.toNat, by omega⟩
  obtain ⟨N, rfl⟩ : ∃ N : Nat, n = N := ⟨n.toNat, by omega⟩
  have d4 : decide ((N : Int) < (M : Int)) = false := decide_eq_false h4
  have d5 : decide (N < M) = false := decide_eq_false (by omega)
  have d7 : ¬ ((N : Int) < (M : Int)) := h4
  have d8 : ¬ (N < M) := by omega
  have hMN : M ≤ N := by omega
  obtain ⟨R, hR⟩ : ∃ R, Hid (R = holdsB M N older newer ps) := ⟨_, Lib.hid rfl⟩
  have HF : Hid (checkP (M : Int) (N : Int) older newer ps = if R = true then 0 else 80) := Lib.hid (by
    rw [hR.out, checkP_in hMN (by omega)]; unfold holdsB; simp only [decide_eq_true_eq])
  obtain ⟨E, hE⟩ : ∃ E, Hid (E = checkP (M : Int) (N : Int) older newer ps) := ⟨_, Lib.hid rfl⟩
  rw [← hE.out]
  rw [← hE.out] at HF
  have ET : Hid (R = true → E = 0) := Lib.hid fun h => by rw [HF.out, if_pos h]
  have EF : Hid (R = false → E = 80) := Lib.hid fun h => by rw [HF.out, h]; rfl
  obtain ⟨b4, hb4⟩ : ∃ b : Bool, b = decide (older = newer) := ⟨_, rfl⟩
  have T4 := eqAt_two older newer C D hC hD ho hw b4 hb4
  have HO := Lib.hid ho
  have HW := Lib.hid hw
  have HP := Lib.hid hps
  have HA := Lib.hid hA
  have HC := Lib.hid hc
  clear hA hps ho hw hc h1 h2 h3 h4 hE
  by_cases hm0 : M = 0
  · subst hm0
    obtain ⟨G, hG⟩ : ∃ G, Hid (G = nums .u8 (rootL [])) := ⟨_, Lib.hid rfl⟩
    have hE32 := rootL_is [] (fun l h => nomatch h)
    obtain ⟨b1, hb1⟩ : ∃ b : Bool, b = decide (older = rootL []) := ⟨_, rfl⟩
    have T1 := eqAt_two older (rootL []) C G hC hG HO.out hE32 b1 hb1
    have HR : Hid (R = (b1 && (decide (q = 0) && (decide (0 < N) || b4)))) := Lib.hid (by
      rw [hR.out, holdsB_zero, hb1, hb4, hq.out, show decide (newer = older) = decide (older = newer) from decide_eq_decide.2 ⟨fun e => e.symm, fun e => e.symm⟩])
    have X1 : Hid (∀ W, Calls Tryd.prog 20 #[.string ⟨#[]⟩] W fun e w' => e = .returned (.agg G) ∧ Below W.heap.size W w') := Lib.hid fun W => by
      rw [hG.out, rootL_none [] rfl]; exact refSum_any ⟨#[]⟩ (by decide) W
    clear hb1 hb4
    by_cases hq0 : q = 0
    · have dq : ((q : Int) == 0) = true := by rw [hq0]; rfl
      have HRq : Hid (R = (b1 && (decide (0 < N) || b4))) := Lib.hid (by rw [HR.out, decide_eq_true hq0, Bool.true_and])
      clear hq0
      cases b1 with
      | false =>
        have HE : Hid (E = 80) := Lib.hid (EF.out (by rw [HRq.out]; rfl))
        go_enter Tryd.func12, Tryd.ntmps12
        go_upto_region 1 with fail
        refine world_gen (fun X => TwoH w X C D) H0.out (fun X HX => ?_)
        have HX := Lib.hid HX
        go_upto_region 5 with fail
        refine wp_region_fk (Below X.heap.size X) (.get 0 (.get 1 (.get 2 (.get 3 (.get 4 (.call 5 (.get 6 (.get 7 (.get 8 (.get 9 (.get 10 (.get 11 (.get 12 (.get 13 (.get 14 (.get 15 (.get 16 (.get 17 .done)))))))))))))))))) (by kernel_rfl) rfl (by kernel_rfl) (by kernel_rfl) (by intro c a d v w h; cases d <;> exact h) (Below.refl X.heap.size X).drew (fun Q' hQ => ?_)
        have HS := Lib.hid (Below.refl X.heap.size X).drew
        have HQ := Lib.hid hQ
        clear hQ
        refine wpFk_get rfl (by rfl) (fun K hK => ?_)
        refine ⟨?_, fun w' hS' => ?_, ?_⟩
        rotate_left
        · go_simp
          try (with_reducible rfl)
        try go_simp
        refine hK _ ?_
        clear hK K
        refine wpFk_get rfl (by rfl) (fun K hK => ?_)
        refine ⟨?_, fun w' hS' => ?_, ?_⟩
        rotate_left
        · go_simp
          try (with_reducible rfl)
        try go_simp
        refine hK _ ?_
        clear hK K
        refine wpFk_get rfl (by rfl) (fun K hK => ?_)
        refine ⟨?_, fun w' hS' => ?_, ?_⟩
        rotate_left
        · go_simp
          try (with_reducible rfl)
        try go_simp
        refine hK _ ?_
        clear hK K
        refine wpFk_get rfl (by rfl) (fun K hK => ?_)
        refine ⟨?_, fun w' hS' => ?_, ?_⟩
        rotate_left
        · go_simp
          try (with_reducible rfl)
        try go_simp
        refine hK _ ?_
        clear hK K
        refine wpFk_get rfl (by rfl) (fun K hK => ?_)
        refine ⟨_, fun w' hS' => get_load rfl rfl ((HX.out.next hS').a.read zC.out), ?_⟩
        try go_simp
        refine hK _ ?_
        clear hK K
        refine wpFk_call rfl (by rfl) (fun K hK => ?_)
        go_simp
        go_at_call 20
        refine (X1.out _).mono ?_
        rintro e w2x ⟨rfl, hb⟩
        replace HS := Lib.hid (below_new HS.out hb)
        clear hb
        refine hK _ _ HS.out ?_
        clear hK K
        refine wpFk_get rfl (by rfl) (fun K hK => ?_)
        refine ⟨_, fun w' hS' => get_eqH rfl rfl rfl (T1.out _), ?_⟩
        try go_simp
        refine hK _ ?_
        clear hK K
        refine wpFk_get rfl (by rfl) (fun K hK => ?_)
        refine ⟨?_, fun w' hS' => ?_, ?_⟩
        rotate_left
        · go_simp
          try (with_reducible rfl)
        try go_simp
        refine hK _ ?_
        clear hK K
        refine wpFk_get rfl (by rfl) (fun K hK => ?_)
        refine ⟨?_, fun w' hS' => ?_, ?_⟩
        rotate_left
        · go_simp
          try (with_reducible rfl)
        try go_simp
        refine hK _ ?_
        clear hK K
        refine wpFk_skip rfl (by rfl) (fun K hK => ?_)
        try go_simp
        refine hK _ ?_
        clear hK K
        refine wpFk_skip rfl (by rfl) (fun K hK => ?_)
        try go_simp
        refine hK _ ?_
        clear hK K
        refine wpFk_skip rfl (by rfl) (fun K hK => ?_)
        try go_simp
        refine hK _ ?_
        clear hK K
        refine wpFk_skip rfl (by rfl) (fun K hK => ?_)
        try go_simp
        refine hK _ ?_
        clear hK K
        refine wpFk_skip rfl (by rfl) (fun K hK => ?_)
        try go_simp
        refine hK _ ?_
        clear hK K
        refine wpFk_skip rfl (by rfl) (fun K hK => ?_)
        try go_simp
        refine hK _ ?_
        clear hK K
        refine wpFk_skip rfl (by rfl) (fun K hK => ?_)
        try go_simp
        refine hK _ ?_
        clear hK K
        refine wpFk_get rfl (by rfl) (fun K hK => ?_)
        refine ⟨?_, fun w' hS' => ?_, ?_⟩
        rotate_left
        · go_simp
          try (with_reducible rfl)
        try go_simp
        refine hK _ ?_
        clear hK K
        refine wpFk_get rfl (by rfl) (fun K hK => ?_)
        refine ⟨?_, fun w' hS' => ?_, ?_⟩
        rotate_left
        · go_simp
          try (with_reducible rfl)
        try go_simp
        refine hK _ ?_
        clear hK K
        refine wpFk_done ?_
        refine HQ.out _ _ ?_
        go_wp2
        go_ret
        exact ⟨by rw [HE.out]; rfl, below_new HX.out.below HS.out⟩
      | true =>
        by_cases hn0 : N = 0
        · have dn : decide ((0 : Int) < (N : Int)) = false := decide_eq_false (by omega)
          have dn2 : ¬ (0 : Int) < (N : Int) := by omega
          have dn3 : decide (0 < N) = false := decide_eq_false (by omega)
          have dn4 : ¬ 0 < N := by omega
          have HRn : Hid (R = b4) := Lib.hid (by rw [HRq.out, dn3]; simp)
          clear hn0
          cases b4 with
          | false =>
            have HE : Hid (E = 80) := Lib.hid (EF.out HRn.out)
            go_enter Tryd.func12, Tryd.ntmps12
            go_upto_region 1 with fail
            refine world_gen (fun X => TwoH w X C D) H0.out (fun X HX => ?_)
            have HX := Lib.hid HX
            go_upto_region 5 with fail
            refine wp_region_fk (Below X.heap.size X) (.get 0 (.get 1 (.get 2 (.get 3 (.get 4 (.call 5 (.get 6 (.get 7 (.get 8 (.get 9 (.get 10 (.get 11 (.get 12 (.get 13 (.get 14 (.get 15 (.get 16 (.get 17 .done)))))))))))))))))) (by kernel_rfl) rfl (by kernel_rfl) (by kernel_rfl) (by intro c a d v w h; cases d <;> exact h) (Below.refl X.heap.size X).drew (fun Q' hQ => ?_)
            have HS := Lib.hid (Below.refl X.heap.size X).drew
            have HQ := Lib.hid hQ
            clear hQ
            refine wpFk_get rfl (by rfl) (fun K hK => ?_)
            refine ⟨?_, fun w' hS' => ?_, ?_⟩
            rotate_left
            · go_simp
              try (with_reducible rfl)
            try go_simp
            refine hK _ ?_
            clear hK K
            refine wpFk_get rfl (by rfl) (fun K hK => ?_)
            refine ⟨?_, fun w' hS' => ?_, ?_⟩
            rotate_left
            · go_simp
              try (with_reducible rfl)
            try go_simp
            refine hK _ ?_
            clear hK K
            refine wpFk_get rfl (by rfl) (fun K hK => ?_)
            refine ⟨?_, fun w' hS' => ?_, ?_⟩
            rotate_left
            · go_simp
              try (with_reducible rfl)
            try go_simp
            refine hK _ ?_
            clear hK K
            refine wpFk_get rfl (by rfl) (fun K hK => ?_)
            refine ⟨?_, fun w' hS' => ?_, ?_⟩
            rotate_left
            · go_simp
              try (with_reducible rfl)
            try go_simp
            refine hK _ ?_
            clear hK K
            refine wpFk_get rfl (by rfl) (fun K hK => ?_)
            refine ⟨_, fun w' hS' => get_load rfl rfl ((HX.out.next hS').a.read zC.out), ?_⟩
            try go_simp
            refine hK _ ?_
            clear hK K
            refine wpFk_call rfl (by rfl) (fun K hK => ?_)
            go_simp
            go_at_call 20
            refine (X1.out _).mono ?_
            rintro e w2x ⟨rfl, hb⟩
            replace HS := Lib.hid (below_new HS.out hb)
            clear hb
            refine hK _ _ HS.out ?_
            clear hK K
            refine wpFk_get rfl (by rfl) (fun K hK => ?_)
            refine ⟨_, fun w' hS' => get_eqH rfl rfl rfl (T1.out _), ?_⟩
            try go_simp
            refine hK _ ?_
            clear hK K
            refine wpFk_get rfl (by rfl) (fun K hK => ?_)
            refine ⟨?_, fun w' hS' => ?_, ?_⟩
            rotate_left
            · go_simp
              try (with_reducible rfl)
            try go_simp
            refine hK _ ?_
            clear hK K
            refine wpFk_get rfl (by rfl) (fun K hK => ?_)
            refine ⟨?_, fun w' hS' => ?_, ?_⟩
            rotate_left
            · go_simp
              try (with_reducible rfl)
            try go_simp
            refine hK _ ?_
            clear hK K
            refine wpFk_get rfl (by rfl) (fun K hK => ?_)
            refine ⟨?_, fun w' hS' => ?_, ?_⟩
            rotate_left
            · go_simp
              try (with_reducible rfl)
            try go_simp
            refine hK _ ?_
            clear hK K
            refine wpFk_get rfl (by rfl) (fun K hK => ?_)
            refine ⟨?_, fun w' hS' => ?_, ?_⟩
            rotate_left
            · go_simp
              try (with_reducible rfl)
            try go_simp
            refine hK _ ?_
            clear hK K
            refine wpFk_get rfl (by rfl) (fun K hK => ?_)
            refine ⟨?_, fun w' hS' => ?_, ?_⟩
            rotate_left
            · go_simp
              try (with_reducible rfl)
            try go_simp
            refine hK _ ?_
            clear hK K
            refine wpFk_get rfl (by rfl) (fun K hK => ?_)
            refine ⟨_, fun w' hS' => get_load rfl rfl ((HX.out.next hS').a.read zC.out), ?_⟩
            try go_simp
            refine hK _ ?_
            clear hK K
            refine wpFk_get rfl (by rfl) (fun K hK => ?_)
            refine ⟨_, fun w' hS' => get_load rfl rfl ((HX.out.next hS').b.read zD.out), ?_⟩
            try go_simp
            refine hK _ ?_
            clear hK K
            refine wpFk_get rfl (by rfl) (fun K hK => ?_)
            refine ⟨_, fun w' hS' => get_eqH rfl rfl rfl (T4.out _), ?_⟩
            try go_simp
            refine hK _ ?_
            clear hK K
            refine wpFk_get rfl (by rfl) (fun K hK => ?_)
            refine ⟨?_, fun w' hS' => ?_, ?_⟩
            rotate_left
            · go_simp
              try (with_reducible rfl)
            try go_simp
            refine hK _ ?_
            clear hK K
            refine wpFk_get rfl (by rfl) (fun K hK => ?_)
            refine ⟨?_, fun w' hS' => ?_, ?_⟩
            rotate_left
            · go_simp
              try (with_reducible rfl)
            try go_simp
            refine hK _ ?_
            clear hK K
            refine wpFk_get rfl (by rfl) (fun K hK => ?_)
            refine ⟨?_, fun w' hS' => ?_, ?_⟩
            rotate_left
            · go_simp
              try (with_reducible rfl)
            try go_simp
            refine hK _ ?_
            clear hK K
            refine wpFk_done ?_
            refine HQ.out _ _ ?_
            go_wp2
            go_ret
            exact ⟨by rw [HE.out]; rfl, below_new HX.out.below HS.out⟩
          | true =>
            have HE : Hid (E = 0) := Lib.hid (ET.out HRn.out)
            go_enter Tryd.func12, Tryd.ntmps12
            go_upto_region 1 with fail
            refine world_gen (fun X => TwoH w X C D) H0.out (fun X HX => ?_)
            have HX := Lib.hid HX
            go_upto_region 5 with fail
            refine wp_region_fk (Below X.heap.size X) (.get 0 (.get 1 (.get 2 (.get 3 (.get 4 (.call 5 (.get 6 (.get 7 (.get 8 (.get 9 (.get 10 (.get 11 (.get 12 (.get 13 (.get 14 (.get 15 (.get 16 (.get 17 .done)))))))))))))))))) (by kernel_rfl) rfl (by kernel_rfl) (by kernel_rfl) (by intro c a d v w h; cases d <;> exact h) (Below.refl X.heap.size X).drew (fun Q' hQ => ?_)
            have HS := Lib.hid (Below.refl X.heap.size X).drew
            have HQ := Lib.hid hQ
            clear hQ
            refine wpFk_get rfl (by rfl) (fun K hK => ?_)
            refine ⟨?_, fun w' hS' => ?_, ?_⟩
            rotate_left
            · go_simp
              try (with_reducible rfl)
            try go_simp
            refine hK _ ?_
            clear hK K
            refine wpFk_get rfl (by rfl) (fun K hK => ?_)
            refine ⟨?_, fun w' hS' => ?_, ?_⟩
            rotate_left
            · go_simp
              try (with_reducible rfl)
            try go_simp
            refine hK _ ?_
            clear hK K
            refine wpFk_get rfl (by rfl) (fun K hK => ?_)
            refine ⟨?_, fun w' hS' => ?_, ?_⟩
            rotate_left
            · go_simp
              try (with_reducible rfl)
            try go_simp
            refine hK _ ?_
            clear hK K
            refine wpFk_get rfl (by rfl) (fun K hK => ?_)
            refine ⟨?_, fun w' hS' => ?_, ?_⟩
            rotate_left
            · go_simp
              try (with_reducible rfl)
            try go_simp
            refine hK _ ?_
            clear hK K
            refine wpFk_get rfl (by rfl) (fun K hK => ?_)
            refine ⟨_, fun w' hS' => get_load rfl rfl ((HX.out.next hS').a.read zC.out), ?_⟩
            try go_simp
            refine hK _ ?_
            clear hK K
            refine wpFk_call rfl (by rfl) (fun K hK => ?_)
            go_simp
            go_at_call 20
            refine (X1.out _).mono ?_
            rintro e w2x ⟨rfl, hb⟩
            replace HS := Lib.hid (below_new HS.out hb)
            clear hb
            refine hK _ _ HS.out ?_
            clear hK K
            refine wpFk_get rfl (by rfl) (fun K hK => ?_)
            refine ⟨_, fun w' hS' => get_eqH rfl rfl rfl (T1.out _), ?_⟩
            try go_simp
            refine hK _ ?_
            clear hK K
            refine wpFk_get rfl (by rfl) (fun K hK => ?_)
            refine ⟨?_, fun w' hS' => ?_, ?_⟩
            rotate_left
            · go_simp
              try (with_reducible rfl)
            try go_simp
            refine hK _ ?_
            clear hK K
            refine wpFk_get rfl (by rfl) (fun K hK => ?_)
            refine ⟨?_, fun w' hS' => ?_, ?_⟩
            rotate_left
            · go_simp
              try (with_reducible rfl)
            try go_simp
            refine hK _ ?_
            clear hK K
            refine wpFk_get rfl (by rfl) (fun K hK => ?_)
            refine ⟨?_, fun w' hS' => ?_, ?_⟩
            rotate_left
            · go_simp
              try (with_reducible rfl)
            try go_simp
            refine hK _ ?_
            clear hK K
            refine wpFk_get rfl (by rfl) (fun K hK => ?_)
            refine ⟨?_, fun w' hS' => ?_, ?_⟩
            rotate_left
            · go_simp
              try (with_reducible rfl)
            try go_simp
            refine hK _ ?_
            clear hK K
            refine wpFk_get rfl (by rfl) (fun K hK => ?_)
            refine ⟨?_, fun w' hS' => ?_, ?_⟩
            rotate_left
            · go_simp
              try (with_reducible rfl)
            try go_simp
            refine hK _ ?_
            clear hK K
            refine wpFk_get rfl (by rfl) (fun K hK => ?_)
            refine ⟨_, fun w' hS' => get_load rfl rfl ((HX.out.next hS').a.read zC.out), ?_⟩
            try go_simp
            refine hK _ ?_
            clear hK K
            refine wpFk_get rfl (by rfl) (fun K hK => ?_)
            refine ⟨_, fun w' hS' => get_load rfl rfl ((HX.out.next hS').b.read zD.out), ?_⟩
            try go_simp
            refine hK _ ?_
            clear hK K
            refine wpFk_get rfl (by rfl) (fun K hK => ?_)
            refine ⟨_, fun w' hS' => get_eqH rfl rfl rfl (T4.out _), ?_⟩
            try go_simp
            refine hK _ ?_
            clear hK K
            refine wpFk_get rfl (by rfl) (fun K hK => ?_)
            refine ⟨?_, fun w' hS' => ?_, ?_⟩
            rotate_left
            · go_simp
              try (with_reducible rfl)
            try go_simp
            refine hK _ ?_
            clear hK K
            refine wpFk_get rfl (by rfl) (fun K hK => ?_)
            refine ⟨?_, fun w' hS' => ?_, ?_⟩
            rotate_left
            · go_simp
              try (with_reducible rfl)
            try go_simp
            refine hK _ ?_
            clear hK K
            refine wpFk_get rfl (by rfl) (fun K hK => ?_)
            refine ⟨?_, fun w' hS' => ?_, ?_⟩
            rotate_left
            · go_simp
              try (with_reducible rfl)
            try go_simp
            refine hK _ ?_
            clear hK K
            refine wpFk_done ?_
            refine HQ.out _ _ ?_
            go_wp2
            go_ret
            exact ⟨by rw [HE.out]; rfl, below_new HX.out.below HS.out⟩
        · have dn : decide ((0 : Int) < (N : Int)) = true := decide_eq_true (by omega)
          have dn2 : (0 : Int) < (N : Int) := by omega
          have dn3 : decide (0 < N) = true := decide_eq_true (by omega)
          have dn4 : 0 < N := by omega
          have HE : Hid (E = 0) := Lib.hid (ET.out (by rw [HRq.out, dn3]; rfl))
          clear hn0
          go_enter Tryd.func12, Tryd.ntmps12
          go_upto_region 1 with fail
          refine world_gen (fun X => TwoH w X C D) H0.out (fun X HX => ?_)
          have HX := Lib.hid HX
          go_upto_region 5 with fail
          refine wp_region_fk (Below X.heap.size X) (.get 0 (.get 1 (.get 2 (.get 3 (.get 4 (.call 5 (.get 6 (.get 7 (.get 8 (.get 9 (.get 10 (.get 11 (.get 12 (.get 13 (.get 14 (.get 15 (.get 16 (.get 17 .done)))))))))))))))))) (by kernel_rfl) rfl (by kernel_rfl) (by kernel_rfl) (by intro c a d v w h; cases d <;> exact h) (Below.refl X.heap.size X).drew (fun Q' hQ => ?_)
          have HS := Lib.hid (Below.refl X.heap.size X).drew
          have HQ := Lib.hid hQ
          clear hQ
          refine wpFk_get rfl (by rfl) (fun K hK => ?_)
          refine ⟨?_, fun w' hS' => ?_, ?_⟩
          rotate_left
          · go_simp
            try (with_reducible rfl)
          try go_simp
          refine hK _ ?_
          clear hK K
          refine wpFk_get rfl (by rfl) (fun K hK => ?_)
          refine ⟨?_, fun w' hS' => ?_, ?_⟩
          rotate_left
          · go_simp
            try (with_reducible rfl)
          try go_simp
          refine hK _ ?_
          clear hK K
          refine wpFk_get rfl (by rfl) (fun K hK => ?_)
          refine ⟨?_, fun w' hS' => ?_, ?_⟩
          rotate_left
          · go_simp
            try (with_reducible rfl)
          try go_simp
          refine hK _ ?_
          clear hK K
          refine wpFk_get rfl (by rfl) (fun K hK => ?_)
          refine ⟨?_, fun w' hS' => ?_, ?_⟩
          rotate_left
          · go_simp
            try (with_reducible rfl)
          try go_simp
          refine hK _ ?_
          clear hK K
          refine wpFk_get rfl (by rfl) (fun K hK => ?_)
          refine ⟨_, fun w' hS' => get_load rfl rfl ((HX.out.next hS').a.read zC.out), ?_⟩
          try go_simp
          refine hK _ ?_
          clear hK K
          refine wpFk_call rfl (by rfl) (fun K hK => ?_)
          go_simp
          go_at_call 20
          refine (X1.out _).mono ?_
          rintro e w2x ⟨rfl, hb⟩
          replace HS := Lib.hid (below_new HS.out hb)
          clear hb
          refine hK _ _ HS.out ?_
          clear hK K
          refine wpFk_get rfl (by rfl) (fun K hK => ?_)
          refine ⟨_, fun w' hS' => get_eqH rfl rfl rfl (T1.out _), ?_⟩
          try go_simp
          refine hK _ ?_
          clear hK K
          refine wpFk_get rfl (by rfl) (fun K hK => ?_)
          refine ⟨?_, fun w' hS' => ?_, ?_⟩
          rotate_left
          · go_simp
            try (with_reducible rfl)
          try go_simp
          refine hK _ ?_
          clear hK K
          refine wpFk_get rfl (by rfl) (fun K hK => ?_)
          refine ⟨?_, fun w' hS' => ?_, ?_⟩
          rotate_left
          · go_simp
            try (with_reducible rfl)
          try go_simp
          refine hK _ ?_
          clear hK K
          refine wpFk_get rfl (by rfl) (fun K hK => ?_)
          refine ⟨?_, fun w' hS' => ?_, ?_⟩
          rotate_left
          · go_simp
            try (with_reducible rfl)
          try go_simp
          refine hK _ ?_
          clear hK K
          refine wpFk_get rfl (by rfl) (fun K hK => ?_)
          refine ⟨?_, fun w' hS' => ?_, ?_⟩
          rotate_left
          · go_simp
            try (with_reducible rfl)
          try go_simp
          refine hK _ ?_
          clear hK K
          refine wpFk_get rfl (by rfl) (fun K hK => ?_)
          refine ⟨?_, fun w' hS' => ?_, ?_⟩
          rotate_left
          · go_simp
            try (with_reducible rfl)
          try go_simp
          refine hK _ ?_
          clear hK K
          refine wpFk_skip rfl (by rfl) (fun K hK => ?_)
          try go_simp
          refine hK _ ?_
          clear hK K
          refine wpFk_skip rfl (by rfl) (fun K hK => ?_)
          try go_simp
          refine hK _ ?_
          clear hK K
          refine wpFk_skip rfl (by rfl) (fun K hK => ?_)
          try go_simp
          refine hK _ ?_
          clear hK K
          refine wpFk_get rfl (by rfl) (fun K hK => ?_)
          refine ⟨?_, fun w' hS' => ?_, ?_⟩
          rotate_left
          · go_simp
            try (with_reducible rfl)
          try go_simp
          refine hK _ ?_
          clear hK K
          refine wpFk_get rfl (by rfl) (fun K hK => ?_)
          refine ⟨?_, fun w' hS' => ?_, ?_⟩
          rotate_left
          · go_simp
            try (with_reducible rfl)
          try go_simp
          refine hK _ ?_
          clear hK K
          refine wpFk_get rfl (by rfl) (fun K hK => ?_)
          refine ⟨?_, fun w' hS' => ?_, ?_⟩
          rotate_left
          · go_simp
            try (with_reducible rfl)
          try go_simp
          refine hK _ ?_
          clear hK K
          refine wpFk_done ?_
          refine HQ.out _ _ ?_
          go_wp2
          go_ret
          exact ⟨by rw [HE.out]; rfl, below_new HX.out.below HS.out⟩
    · have dq : ((q : Int) == 0) = false := by simp; omega
      have HE : Hid (E = 80) := Lib.hid (EF.out (by rw [HR.out, decide_eq_false hq0]; simp))
      clear hq0
      go_enter Tryd.func12, Tryd.ntmps12
      go_upto_region 1 with fail
      refine world_gen (fun X => TwoH w X C D) H0.out (fun X HX => ?_)
      have HX := Lib.hid HX
      go_upto_region 5 with fail
      refine wp_region_fk (Below X.heap.size X) (.get 0 (.get 1 (.get 2 (.get 3 (.get 4 (.get 5 (.get 6 (.get 7 (.get 8 (.get 9 (.get 10 (.get 11 (.get 12 (.get 13 (.get 14 (.get 15 (.get 16 (.get 17 .done)))))))))))))))))) (by kernel_rfl) rfl (by kernel_rfl) (by kernel_rfl) (by intro c a d v w h; cases d <;> exact h) (Below.refl X.heap.size X).drew (fun Q' hQ => ?_)
      have HS := Lib.hid (Below.refl X.heap.size X).drew
      have HQ := Lib.hid hQ
      clear hQ
      refine wpFk_get rfl (by rfl) (fun K hK => ?_)
      refine ⟨?_, fun w' hS' => ?_, ?_⟩
      rotate_left
      · go_simp
        try (with_reducible rfl)
      try go_simp
      refine hK _ ?_
      clear hK K
      refine wpFk_get rfl (by rfl) (fun K hK => ?_)
      refine ⟨?_, fun w' hS' => ?_, ?_⟩
      rotate_left
      · go_simp
        try (with_reducible rfl)
      try go_simp
      refine hK _ ?_
      clear hK K
      refine wpFk_get rfl (by rfl) (fun K hK => ?_)
      refine ⟨?_, fun w' hS' => ?_, ?_⟩
      rotate_left
      · go_simp
        try (with_reducible rfl)
      try go_simp
      refine hK _ ?_
      clear hK K
      refine wpFk_get rfl (by rfl) (fun K hK => ?_)
      refine ⟨?_, fun w' hS' => ?_, ?_⟩
      rotate_left
      · go_simp
        try (with_reducible rfl)
      try go_simp
      refine hK _ ?_
      clear hK K
      refine wpFk_skip rfl (by rfl) (fun K hK => ?_)
      try go_simp
      refine hK _ ?_
      clear hK K
      refine wpFk_skip rfl (by rfl) (fun K hK => ?_)
      try go_simp
      refine hK _ ?_
      clear hK K
      refine wpFk_skip rfl (by rfl) (fun K hK => ?_)
      try go_simp
      refine hK _ ?_
      clear hK K
      refine wpFk_get rfl (by rfl) (fun K hK => ?_)
      refine ⟨?_, fun w' hS' => ?_, ?_⟩
      rotate_left
      · go_simp
        try (with_reducible rfl)
      try go_simp
      refine hK _ ?_
      clear hK K
      refine wpFk_get rfl (by rfl) (fun K hK => ?_)
      refine ⟨?_, fun w' hS' => ?_, ?_⟩
      rotate_left
      · go_simp
        try (with_reducible rfl)
      try go_simp
      refine hK _ ?_
      clear hK K
      refine wpFk_skip rfl (by rfl) (fun K hK => ?_)
      try go_simp
      refine hK _ ?_
      clear hK K
      refine wpFk_skip rfl (by rfl) (fun K hK => ?_)
      try go_simp
      refine hK _ ?_
      clear hK K
      refine wpFk_skip rfl (by rfl) (fun K hK => ?_)
      try go_simp
      refine hK _ ?_
      clear hK K
      refine wpFk_skip rfl (by rfl) (fun K hK => ?_)
      try go_simp
      refine hK _ ?_
      clear hK K
      refine wpFk_skip rfl (by rfl) (fun K hK => ?_)
      try go_simp
      refine hK _ ?_
      clear hK K
      refine wpFk_skip rfl (by rfl) (fun K hK => ?_)
      try go_simp
      refine hK _ ?_
      clear hK K
      refine wpFk_skip rfl (by rfl) (fun K hK => ?_)
      try go_simp
      refine hK _ ?_
      clear hK K
      refine wpFk_get rfl (by rfl) (fun K hK => ?_)
      refine ⟨?_, fun w' hS' => ?_, ?_⟩
      rotate_left
      · go_simp
        try (with_reducible rfl)
      try go_simp
      refine hK _ ?_
      clear hK K
      refine wpFk_get rfl (by rfl) (fun K hK => ?_)
      refine ⟨?_, fun w' hS' => ?_, ?_⟩
      rotate_left
      · go_simp
        try (with_reducible rfl)
      try go_simp
      refine hK _ ?_
      clear hK K
      refine wpFk_done ?_
      refine HQ.out _ _ ?_
      go_wp2
      go_ret
      exact ⟨by rw [HE.out]; rfl, below_new HX.out.below HS.out⟩
  · have dm : ((M : Int) == 0) = false := by simp; omega
    by_cases hmn : M = N
    · have dmn : ((M : Int) == (N : Int)) = true := by rw [hmn]; simp
      have HR : Hid (R = (decide (q = 0) && b4)) := Lib.hid (by rw [hR.out, ← hmn, holdsB_same (by omega), hb4, hq.out])
      clear hb4 hmn
      have t4 := T4.out
      by_cases hq0 : q = 0
      · have dq : ((q : Int) == 0) = true := by rw [hq0]; rfl
        have HRq : Hid (R = b4) := Lib.hid (by rw [HR.out, decide_eq_true hq0, Bool.true_and])
        clear hq0
        cases b4 with
        | false =>
          have HE : Hid (E = 80) := Lib.hid (EF.out HRq.out)
          go_enter Tryd.func12, Tryd.ntmps12
          go_upto_region 1 with fail
          refine world_gen (fun X => TwoH w X C D) H0.out (fun X HX => ?_)
          have HX := Lib.hid HX
          have s5 := HX.out.a.read zC.out
          have s6 := HX.out.b.read zD.out
          go_wp2
          go_ret
          exact ⟨by rw [HE.out]; rfl, HX.out.below⟩
        | true =>
          have HE : Hid (E = 0) := Lib.hid (ET.out HRq.out)
          go_enter Tryd.func12, Tryd.ntmps12
          go_upto_region 1 with fail
          refine world_gen (fun X => TwoH w X C D) H0.out (fun X HX => ?_)
          have HX := Lib.hid HX
          have s5 := HX.out.a.read zC.out
          have s6 := HX.out.b.read zD.out
          go_wp2
          go_ret
          exact ⟨by rw [HE.out]; rfl, HX.out.below⟩
      · have dq : ((q : Int) == 0) = false := by simp; omega
        have HE : Hid (E = 80) := Lib.hid (EF.out (by rw [HR.out, decide_eq_false hq0]; rfl))
        clear hq0
        go_enter Tryd.func12, Tryd.ntmps12
        go_upto_region 1 with fail
        refine world_gen (fun X => TwoH w X C D) H0.out (fun X HX => ?_)
        have HX := Lib.hid HX
        have s5 := HX.out.a.read zC.out
        have s6 := HX.out.b.read zD.out
        go_wp2
        go_ret
        exact ⟨by rw [HE.out]; rfl, HX.out.below⟩
    · have dmn : ((M : Int) == (N : Int)) = false := by simp; omega
      obtain ⟨R', hR'⟩ : ∃ R', Hid (R' = saysR older M N true ps.reverse) := ⟨_, Lib.hid rfl⟩
      have HR : Hid (R = decide (R' = some (older, newer))) := Lib.hid (by rw [hR.out, holdsB_some (by omega), valS_both, hR'.out])
      have X1 : Hid (∀ W, Below w.heap.size w W → Calls Tryd.prog 21 #[.int .i64 (M : Int), .int .i64 (N : Int), .bool true, .agg C, .slice A q c] W (GivesT W R')) := Lib.hid fun W hW => by
        have := refSays_any (ps.length + 1) ps older M N true A c W (by omega) HO.out (by omega) hMN (by omega) HP.out (HA.out.from hW) HC.out hcm
        rw [← hq.out, ← hC.out, ← hR'.out] at this
        exact this
      clear hb4 hmn T4
      cases hRR : R' with
      | none =>
        rw [hRR] at X1 HR
        have HE : Hid (E = 80) := Lib.hid (EF.out (by rw [HR.out]; rfl))
        clear hR' hRR
        go_enter Tryd.func12, Tryd.ntmps12
        go_upto_region 1 with fail
        refine world_gen (fun X => TwoH w X C D) H0.out (fun X HX => ?_)
        have HX := Lib.hid HX
        have s5 := HX.out.a.read zC.out
        go_upto_region 9 with (go_at_call 21; (with_reducible refine (X1.out _ HX.out.below).mono ?_); rintro e w6 ⟨⟨Y, Z, rfl, hy, hz, hyz⟩, hb⟩; obtain ⟨YY, hYY⟩ : ∃ V, Hid (V = nums .u8 Y) := ⟨_, Lib.hid rfl⟩; obtain ⟨ZZ, hZZ⟩ : ∃ V, Hid (V = nums .u8 Z) := ⟨_, Lib.hid rfl⟩; rw [← hYY.out, ← hZZ.out]; have HY := Lib.hid hy; have HZ := Lib.hid hz; have HYZ := Lib.hid hyz; clear hy hz hyz; have zY : Hid (YY.size = 32) := Lib.hid (by rw [hYY.out, nums_size]; exact HY.out.1); have oY : Hid (YY.all (·.oneCell') = true) := Lib.hid (by rw [hYY.out]; exact nums_one _ _); have zZ : Hid (ZZ.size = 32) := Lib.hid (by rw [hZZ.out, nums_size]; exact HZ.out.1); have oZ : Hid (ZZ.all (·.oneCell') = true) := Lib.hid (by rw [hZZ.out]; exact nums_one _ _); obtain ⟨w7, w8, s7, s8, hr7, hr8, hb8, hz8⟩ := made_two w6 YY ZZ zY.out oY.out zZ.out oZ.out; have HX8 := Lib.hid (HX.out.next (below_new hb hb8)); have HR7 := Lib.hid hr7; have HR8 := Lib.hid hr8; clear hr7 hr8 hb8 hz8 hb s5)
        clear s7 s8
        go_wp2
        go_ret
        exact ⟨by rw [HE.out]; rfl, HX8.out.below⟩
      | some y =>
        obtain ⟨a, b⟩ := y
        rw [hRR] at X1 HR
        clear hR' hRR
        obtain ⟨b1, hb1⟩ : ∃ b1 : Bool, b1 = decide (a = older) := ⟨_, rfl⟩
        obtain ⟨b2, hb2⟩ : ∃ b2 : Bool, b2 = decide (b = newer) := ⟨_, rfl⟩
        have HRb : Hid (R = (b1 && b2)) := Lib.hid (by
          rw [HR.out, hb1, hb2, ← Bool.decide_and]
          refine decide_eq_decide.2 ⟨fun e => by cases e; exact ⟨rfl, rfl⟩, fun e => by rw [e.1, e.2]⟩)
        have T1 : Hid (∀ (Z : List Int) (Y : Array Value), Hid (Y = nums .u8 Z) → (Z.length = 32 ∧ bytes Z) → Z = a → ∀ W, (eqAt (.agg Y) (.agg C)).run Tryd.prog W = .ok (.bool b1) W) := Lib.hid fun Z Y hY hz hza => (eqAt_two Z older Y C hY hC hz HO.out b1 (by rw [hza]; exact hb1)).out
        have T2 : Hid (∀ (Z : List Int) (Y : Array Value), Hid (Y = nums .u8 Z) → (Z.length = 32 ∧ bytes Z) → Z = b → ∀ W, (eqAt (.agg Y) (.agg D)).run Tryd.prog W = .ok (.bool b2) W) := Lib.hid fun Z Y hY hz hzb => (eqAt_two Z newer Y D hY hD hz HW.out b2 (by rw [hzb]; exact hb2)).out
        clear hb1 hb2
        cases b1 with
        | false =>
          have HE : Hid (E = 80) := Lib.hid (EF.out (by rw [HRb.out]; rfl))
          go_enter Tryd.func12, Tryd.ntmps12
          go_upto_region 1 with fail
          refine world_gen (fun X => TwoH w X C D) H0.out (fun X HX => ?_)
          have HX := Lib.hid HX
          have s5 := HX.out.a.read zC.out
          go_upto_region 9 with (go_at_call 21; (with_reducible refine (X1.out _ HX.out.below).mono ?_); rintro e w6 ⟨⟨Y, Z, rfl, hy, hz, hyz⟩, hb⟩; obtain ⟨YY, hYY⟩ : ∃ V, Hid (V = nums .u8 Y) := ⟨_, Lib.hid rfl⟩; obtain ⟨ZZ, hZZ⟩ : ∃ V, Hid (V = nums .u8 Z) := ⟨_, Lib.hid rfl⟩; rw [← hYY.out, ← hZZ.out]; have HY := Lib.hid hy; have HZ := Lib.hid hz; have HYZ := Lib.hid hyz; clear hy hz hyz; have zY : Hid (YY.size = 32) := Lib.hid (by rw [hYY.out, nums_size]; exact HY.out.1); have oY : Hid (YY.all (·.oneCell') = true) := Lib.hid (by rw [hYY.out]; exact nums_one _ _); have zZ : Hid (ZZ.size = 32) := Lib.hid (by rw [hZZ.out, nums_size]; exact HZ.out.1); have oZ : Hid (ZZ.all (·.oneCell') = true) := Lib.hid (by rw [hZZ.out]; exact nums_one _ _); obtain ⟨w7, w8, s7, s8, hr7, hr8, hb8, hz8⟩ := made_two w6 YY ZZ zY.out oY.out zZ.out oZ.out; have HX8 := Lib.hid (HX.out.next (below_new hb hb8)); have HR7 := Lib.hid hr7; have HR8 := Lib.hid hr8; clear hr7 hr8 hb8 hz8 hb s5)
          clear s7 s8
          have t1 := T1.out Y YY hYY HY.out (HYZ.out _ rfl).1 w8
          have t2 := T2.out Z ZZ hZZ HZ.out (HYZ.out _ rfl).2 w8
          have s1 := HR7.out.read zY.out
          have s2 := HR8.out.read zZ.out
          have s3 := HX8.out.a.read zC.out
          have s4 := HX8.out.b.read zD.out
          go_wp2
          go_ret
          exact ⟨by rw [HE.out]; rfl, HX8.out.below⟩
        | true =>
          cases b2 with
          | false =>
            have HE : Hid (E = 80) := Lib.hid (EF.out (by rw [HRb.out]; rfl))
            go_enter Tryd.func12, Tryd.ntmps12
            go_upto_region 1 with fail
            refine world_gen (fun X => TwoH w X C D) H0.out (fun X HX => ?_)
            have HX := Lib.hid HX
            have s5 := HX.out.a.read zC.out
            go_upto_region 9 with (go_at_call 21; (with_reducible refine (X1.out _ HX.out.below).mono ?_); rintro e w6 ⟨⟨Y, Z, rfl, hy, hz, hyz⟩, hb⟩; obtain ⟨YY, hYY⟩ : ∃ V, Hid (V = nums .u8 Y) := ⟨_, Lib.hid rfl⟩; obtain ⟨ZZ, hZZ⟩ : ∃ V, Hid (V = nums .u8 Z) := ⟨_, Lib.hid rfl⟩; rw [← hYY.out, ← hZZ.out]; have HY := Lib.hid hy; have HZ := Lib.hid hz; have HYZ := Lib.hid hyz; clear hy hz hyz; have zY : Hid (YY.size = 32) := Lib.hid (by rw [hYY.out, nums_size]; exact HY.out.1); have oY : Hid (YY.all (·.oneCell') = true) := Lib.hid (by rw [hYY.out]; exact nums_one _ _); have zZ : Hid (ZZ.size = 32) := Lib.hid (by rw [hZZ.out, nums_size]; exact HZ.out.1); have oZ : Hid (ZZ.all (·.oneCell') = true) := Lib.hid (by rw [hZZ.out]; exact nums_one _ _); obtain ⟨w7, w8, s7, s8, hr7, hr8, hb8, hz8⟩ := made_two w6 YY ZZ zY.out oY.out zZ.out oZ.out; have HX8 := Lib.hid (HX.out.next (below_new hb hb8)); have HR7 := Lib.hid hr7; have HR8 := Lib.hid hr8; clear hr7 hr8 hb8 hz8 hb s5)
            clear s7 s8
            have t1 := T1.out Y YY hYY HY.out (HYZ.out _ rfl).1 w8
            have t2 := T2.out Z ZZ hZZ HZ.out (HYZ.out _ rfl).2 w8
            have s1 := HR7.out.read zY.out
            have s2 := HR8.out.read zZ.out
            have s3 := HX8.out.a.read zC.out
            have s4 := HX8.out.b.read zD.out
            go_wp2
            go_ret
            exact ⟨by rw [HE.out]; rfl, HX8.out.below⟩
          | true =>
            have HE : Hid (E = 0) := Lib.hid (ET.out (by rw [HRb.out]; rfl))
            go_enter Tryd.func12, Tryd.ntmps12
            go_upto_region 1 with fail
            refine world_gen (fun X => TwoH w X C D) H0.out (fun X HX => ?_)
            have HX := Lib.hid HX
            have s5 := HX.out.a.read zC.out
            go_upto_region 9 with (go_at_call 21; (with_reducible refine (X1.out _ HX.out.below).mono ?_); rintro e w6 ⟨⟨Y, Z, rfl, hy, hz, hyz⟩, hb⟩; obtain ⟨YY, hYY⟩ : ∃ V, Hid (V = nums .u8 Y) := ⟨_, Lib.hid rfl⟩; obtain ⟨ZZ, hZZ⟩ : ∃ V, Hid (V = nums .u8 Z) := ⟨_, Lib.hid rfl⟩; rw [← hYY.out, ← hZZ.out]; have HY := Lib.hid hy; have HZ := Lib.hid hz; have HYZ := Lib.hid hyz; clear hy hz hyz; have zY : Hid (YY.size = 32) := Lib.hid (by rw [hYY.out, nums_size]; exact HY.out.1); have oY : Hid (YY.all (·.oneCell') = true) := Lib.hid (by rw [hYY.out]; exact nums_one _ _); have zZ : Hid (ZZ.size = 32) := Lib.hid (by rw [hZZ.out, nums_size]; exact HZ.out.1); have oZ : Hid (ZZ.all (·.oneCell') = true) := Lib.hid (by rw [hZZ.out]; exact nums_one _ _); obtain ⟨w7, w8, s7, s8, hr7, hr8, hb8, hz8⟩ := made_two w6 YY ZZ zY.out oY.out zZ.out oZ.out; have HX8 := Lib.hid (HX.out.next (below_new hb hb8)); have HR7 := Lib.hid hr7; have HR8 := Lib.hid hr8; clear hr7 hr8 hb8 hz8 hb s5)
            clear s7 s8
            have t1 := T1.out Y YY hYY HY.out (HYZ.out _ rfl).1 w8
            have t2 := T2.out Z ZZ hZZ HZ.out (HYZ.out _ rfl).2 w8
            have s1 := HR7.out.read zY.out
            have s2 := HR8.out.read zZ.out
            have s3 := HX8.out.a.read zC.out
            have s4 := HX8.out.b.read zD.out
            go_wp2
            go_ret
            exact ⟨by rw [HE.out]; rfl, HX8.out.below⟩
end Go.Proofs.YtkjgkeigfebcmaaDoor
