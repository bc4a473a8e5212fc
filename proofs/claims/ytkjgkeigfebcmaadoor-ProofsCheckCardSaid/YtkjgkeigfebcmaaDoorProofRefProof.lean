/-
  The walk of the document's Proof (layer 7), and of the function in it that calls itself. Condition: a list of hashes in memory. What it makes is new memory; nothing that was there changes.
-/
import Derived.Test.YtkjgkeigfebcmaaDoorProofMath
import Derived.Test.YtkjgkeigfebcmaaDoorTreeRefRoot
import Derived.Test.YtkjgkeigfebcmaaDoorListMem
namespace Go.Proofs.YtkjgkeigfebcmaaDoor
open Go.RowKit Go.Great
set_option linter.unusedVariables false
set_option maxRecDepth 100000

theorem own_one {W : World} {B : Nat} {y : List Int} {C : Array Value} (hC : C = nums .u8 y) (hy : y.length = 32) (hB : B ≤ W.heap.size) : (W.alloc (.cells C 30)).ownsRow B 30 32 (.slice (some ⟨W.heap.size, 0, none⟩) 1 1) 1 (cellsL [y]) := by
  have h := World.ownsRow_lit (base := B) (e := 30) (size := 32) W C 1 hB (by decide) (by rw [hC, nums_size, hy])
  have e : C.toList = cellsL [y] := by rw [hC]; simp [cellsL, nums]
  rw [e] at h
  exact h
attribute [local go_sem ↓ high] read_at write_at
set_option maxHeartbeats 8000000 in
theorem refSub_own (b : Nat) : ∀ (ls : List (List Int)) (A : Option Addr) (c : Nat) (w : World) (i : Nat) (kn : Bool), ls.length ≤ b → hashes ls → HL w w.heap.size A ls → ls.length ≤ c → c ≤ 9223372036854775807 → 1 ≤ i → i ≤ ls.length →
    Calls Tryd.prog 18 #[.slice A ls.length c, .int .i64 (i : Int), .bool kn] w fun e w' => ∃ A' c', e = .returned (.slice A' (subL ls i kn).length c') ∧ OwnL w w' (.slice A' (subL ls i kn).length c') (subL ls i kn).length (subL ls i kn) := by
  induction b with
  | zero => intro ls A c w i kn hb; omega
  | succ b ih =>
    intro ls A c w i kn hb hh hA hc hcm hi1 hi
    obtain ⟨n, hn⟩ : ∃ n, Hid (n = ls.length) := ⟨_, Lib.hid rfl⟩
    have hb' : n ≤ b + 1 := by rw [hn.out]; exact hb
    have hi' : i ≤ n := by rw [hn.out]; exact hi
    by_cases h1 : n ≤ i
    · have hin : i = n := by omega
      have d1 : ((i : Int) == (n : Int)) = true := by rw [hin]; simp
      cases kn with
      | true =>
        have HF : Hid (subL ls i true = []) := Lib.hid (subL_known ls i (by rw [← hn.out]; exact h1))
        rw [HF.out, ← hn.out]
        clear hb hh hA hc hcm hi ih h1 hin
        go_enter Tryd.func18, Tryd.ntmps18
        go_wp2
        go_ret
        exact ⟨none, 0, rfl, OwnL.start w⟩
      | false =>
        obtain ⟨y, hy⟩ : ∃ y, Hid (y = rootL ls) := ⟨_, Lib.hid rfl⟩
        obtain ⟨C, hC⟩ : ∃ C, Hid (C = nums .u8 y) := ⟨_, Lib.hid rfl⟩
        have HF : Hid (subL ls i false = [y]) := Lib.hid (by rw [hy.out]; exact subL_not ls i (by rw [← hn.out]; exact h1))
        have hy32 : Hid (y.length = 32 ∧ bytes y) := Lib.hid (by rw [hy.out]; exact rootL_is _ hh)
        have zC : Hid (C.size = 32) := Lib.hid (by rw [hC.out, nums_size]; exact hy32.out.1)
        have X1 : Hid (Calls Tryd.prog 25 #[.slice A n c] w fun ev w' => ev = .returned (.agg C) ∧ Below w.heap.size w w') := Lib.hid (by
          have := refRoot_any ls.length ls A c w (Nat.le_refl _) hh hA (by rw [← hn.out]; omega) (by omega)
          rwa [← hn.out, ← hy.out, ← hC.out] at this)
        rw [HF.out, ← hn.out]
        clear hb hh hA hc hcm hi ih h1 hin
        go_enter Tryd.func18, Tryd.ntmps18
        go_wp2_with (first
          | (go_at_call 25; (with_reducible refine X1.out.mono ?_); rintro e w2 ⟨rfl, hb⟩; have HB2 := Lib.hid hb; clear hb)
          | (refine wpList_buildOne rfl _ rfl C rfl zC.out ?_))
        go_ret
        exact ⟨some ⟨w2.heap.size, 0, none⟩, 1, rfl, own_one hC.out hy32.out.1 HB2.out.size, HB2.out.alloc HB2.out.size _⟩
    · have d1 : ((i : Int) == (n : Int)) = false := by simp; omega
      obtain ⟨k, hk⟩ : ∃ k, Hid (k = splitN n) := ⟨_, Lib.hid rfl⟩
      have hk1 : 0 < k := by rw [hk.out]; exact splitN_pos _ (by omega)
      have hk2 : k < n := by rw [hk.out]; exact splitN_lt _ (by omega)
      have hcn : n ≤ c := by rw [hn.out]; exact hc
      have S1 : Hid (∀ W, Calls Tryd.prog 26 #[.int .i64 (n : Int)] W fun ev w' => ev = .returned (.int .i64 (k : Int)) ∧ W = w') := Lib.hid fun W =>
        (refSplit_any (n : Int) (by omega) W).mono fun ev w' ⟨he, hw⟩ => ⟨by rw [he]; unfold splitI; rw [show ((n : Int)).toNat = n by omega, hk.out], hw⟩
      obtain ⟨ad, rfl⟩ := hA.some 0 (by rw [← hn.out]; omega)
      have HLI := Lib.hid hA
      have HHI := Lib.hid hh
      have hks : Hid (splitN ls.length = k) := Lib.hid (by rw [hk.out, hn.out])
      obtain ⟨P, hP⟩ : ∃ P, Hid (P = subL ls i kn) := ⟨_, Lib.hid rfl⟩
      have hP64 : Hid (P.length ≤ 64) := Lib.hid (by rw [hP.out]; exact subL_length 63 ls i kn (by rw [← hn.out]; omega))
      have b1 : (k : Int) ≤ (n : Int) := by omega
      have b2 : (k : Int) ≤ (c : Int) := by omega
      have b3 : (n : Int) ≤ (c : Int) := by omega
      have b4 : (0 : Int) ≤ (k : Int) := by omega
      have b5 : ((n : Int) - (k : Int)).toNat = n - k := by omega
      have b6 : ((c : Int) - (k : Int)).toNat = c - k := by omega
      have b8 : ¬ (c = k) := by omega
      rw [← hn.out, ← hP.out]
      by_cases hlt : i ≤ k
      · have dl : (i : Int) ≤ (k : Int) := by omega
        obtain ⟨y, hy⟩ : ∃ y, Hid (y = rootL (ls.drop k)) := ⟨_, Lib.hid rfl⟩
        obtain ⟨C, hC⟩ : ∃ C, Hid (C = nums .u8 y) := ⟨_, Lib.hid rfl⟩
        have lp : (ls.drop k).length = n - k := by rw [List.length_drop, ← hn.out]
        have lk : (ls.take k).length = k := by rw [List.length_take, ← hn.out]; omega
        have hy32 : y.length = 32 ∧ bytes y := by rw [hy.out]; exact rootL_is _ (hashes_drop HHI.out k)
        have HY32 := Lib.hid hy32
        have zC : Hid (C.size = 32) := Lib.hid (by rw [hC.out, nums_size]; exact hy32.1)
        have X1 : Hid (∀ W, Below w.heap.size w W → Calls Tryd.prog 25 #[.slice (some (ad.add (k * 32))) (n - k) (c - k)] W fun ev w' => ev = .returned (.agg C) ∧ Below W.heap.size W w') := Lib.hid fun W hW => by
          have := refRoot_any (ls.drop k).length (ls.drop k) (some (ad.add (k * 32))) (c - k) W (Nat.le_refl _) (hashes_drop HHI.out k) (((HLI.out.drop k).next hW (Nat.le_refl _)).more hW.size) (by rw [lp]; omega) (by omega)
          rwa [lp, ← hy.out, ← hC.out] at this
        obtain ⟨Q, hQ⟩ : ∃ Q, Hid (Q = subL (ls.take k) i kn) := ⟨_, Lib.hid rfl⟩
        obtain ⟨q, hq⟩ : ∃ q, Hid (q = Q.length) := ⟨_, Lib.hid rfl⟩
        have hQh : Hid (hashes Q) := Lib.hid (by rw [hQ.out]; exact subL_hashes _ _ _ _ rfl (hashes_take HHI.out k))
        have X0 : Hid (∀ W, Below w.heap.size w W → Calls Tryd.prog 18 #[.slice (some ad) k c, .int .i64 ((i : Int)), .bool kn] W fun e w' => ∃ A' c', e = .returned (.slice A' q c') ∧ OwnL W w' (.slice A' q c') q Q) := Lib.hid fun W hW => by
          have := ih (ls.take k) (some ad) c W (i) kn (by rw [lk]; omega) (hashes_take HHI.out k) (((HLI.out.take k).next hW (Nat.le_refl _)).more hW.size) (by rw [lk]; omega) (by omega) (by omega) (by rw [lk]; omega)
          rw [lk, ← hQ.out, ← hq.out] at this
          exact this
        have HN : Hid (P = Q ++ [y]) := Lib.hid (by rw [hP.out, hQ.out, hy.out, subL_left ls i kn hi1 (by rw [← hn.out]; omega) (by rw [hks.out]; exact hlt), hks.out])
        have zP : Hid (P.length = q + 1) := Lib.hid (by rw [HN.out, List.length_append, hq.out]; rfl)
        have zM : Hid (q + 1 ≤ 8192) := Lib.hid (by have := zP.out; have := hP64.out; omega)
        rw [zP.out]
        clear lp lk hy32 hA hh ih hi hb
        go_enter Tryd.func18, Tryd.ntmps18
        go_upto_region 7 with (go_at_call 26; (with_reducible refine (S1.out _).mono ?_); rintro e w' ⟨rfl, rfl⟩)
        refine wp_region_fk (Below w.heap.size w) (.get 0 (.get 1 (.get 2 (.get 3 (.get 4 (.get 6 (.get 7 (.get 8 (.call 5 (.call 9 (.call 10 (.call 11 (.get 12 .done))))))))))))) (by kernel_rfl) rfl (by kernel_rfl) (by kernel_rfl) (by intro c a d v w h; cases d <;> exact h) (Below.refl w.heap.size w).drew (fun Q' hQ => ?_)
        have HS := Lib.hid (Below.refl w.heap.size w).drew
        have HQ := Lib.hid hQ
        clear hQ
        refine wpFk_get rfl (by rfl) (fun K hK => ?_)
        refine ⟨?_, fun w' hS' => ?_, ?_⟩
        rotate_left
        · go_simp
          try (with_reducible rfl)
        try go_simp
        refine hK _ ?_
        clear hK K
        refine wpFk_get rfl (by rfl) (fun K hK => ?_)
        refine ⟨?_, fun w' hS' => ?_, ?_⟩
        rotate_left
        · go_simp
          try (with_reducible rfl)
        try go_simp
        refine hK _ ?_
        clear hK K
        refine wpFk_get rfl (by rfl) (fun K hK => ?_)
        refine ⟨?_, fun w' hS' => ?_, ?_⟩
        rotate_left
        · go_simp
          try (with_reducible rfl)
        try go_simp
        refine hK _ ?_
        clear hK K
        refine wpFk_get rfl (by rfl) (fun K hK => ?_)
        refine ⟨?_, fun w' hS' => ?_, ?_⟩
        rotate_left
        · go_simp
          try (with_reducible rfl)
        try go_simp
        refine hK _ ?_
        clear hK K
        refine wpFk_get rfl (by rfl) (fun K hK => ?_)
        refine ⟨?_, fun w' hS' => ?_, ?_⟩
        rotate_left
        · go_simp
          try (with_reducible rfl)
        try go_simp
        refine hK _ ?_
        clear hK K
        refine wpFk_get rfl (by rfl) (fun K hK => ?_)
        refine ⟨?_, fun w' hS' => ?_, ?_⟩
        rotate_left
        · go_simp
          try (with_reducible rfl)
        try go_simp
        refine hK _ ?_
        clear hK K
        refine wpFk_get rfl (by rfl) (fun K hK => ?_)
        refine ⟨?_, fun w' hS' => ?_, ?_⟩
        rotate_left
        · go_simp
          try (with_reducible rfl)
        try go_simp
        refine hK _ ?_
        clear hK K
        refine wpFk_get rfl (by rfl) (fun K hK => ?_)
        refine ⟨?_, fun w' hS' => ?_, ?_⟩
        rotate_left
        · go_simp
          try (with_reducible rfl)
        try go_simp
        refine hK _ ?_
        clear hK K
        refine wpFk_call rfl (by rfl) (fun K hK => ?_)
        go_simp
        go_at_call 18
        refine (X0.out _ HS.out).mono ?_
        rintro e w1 ⟨A1, c1, rfl, ho⟩
        have HO := Lib.hid ho.1
        replace HS := Lib.hid (below_new HS.out ho.2)
        clear ho
        refine hK _ _ HS.out ?_
        clear hK K
        refine wpFk_call rfl (by rfl) (fun K hK => ?_)
        go_simp
        go_at_call 25
        refine (X1.out _ HS.out).mono ?_
        rintro e w2 ⟨rfl, hb⟩
        replace HO := Lib.hid (own_below HO.out hb)
        replace HS := Lib.hid (below_new HS.out hb)
        clear hb
        refine hK _ _ HS.out ?_
        clear hK K
        refine wpFk_call rfl (by rfl) (fun K hK => ?_)
        refine wp_buildOne (.tmp 37) rfl C rfl zC.out ?_
        have HRt := Lib.hid (Row.made w2 30 C)
        replace HO := Lib.hid (own_below HO.out ((Below.refl w2.heap.size w2).alloc (Nat.le_refl _) (.cells C 30)))
        replace HS := Lib.hid (HS.out.alloc HS.out.size (.cells C 30))
        try go_simp
        refine hK _ _ HS.out ?_
        clear hK K
        refine wpFk_call rfl (by rfl) (fun K hK => ?_)
        refine wp_appendH (.tmp 33) (.tmp 38) rfl w.heap.size (.slice A1 q c1) q Q [y] rfl HO.out _ 1 1 rfl rfl (fun l hl => by rw [List.mem_singleton.1 hl]; exact HY32.out) (HL.row (by rw [← hC.out]; exact HRt.out) HY32.out.1) zM.out HS.out.size ?_
        intro v2 w3 ho hg
        obtain ⟨A2, c2, rfl⟩ := own_form ho
        have HO2 := Lib.hid ho
        replace HS := Lib.hid (HS.out.grown hg HS.out.size (fun k hk => (HO.out.lt k hk).1))
        clear ho hg
        try go_simp
        refine hK _ _ HS.out ?_
        clear hK K
        refine wpFk_get rfl (by rfl) (fun K hK => ?_)
        refine ⟨?_, fun w' hS' => ?_, ?_⟩
        rotate_left
        · go_simp
          try (with_reducible rfl)
        try go_simp
        refine hK _ ?_
        clear hK K
        refine wpFk_done ?_
        refine HQ.out _ _ ?_
        go_wp2
        go_ret
        exact ⟨A2, c2, rfl, by rw [HN.out]; exact ⟨HO2.out, HS.out⟩⟩
      · have dl2 : ¬ ((i : Int) ≤ (k : Int)) := by omega
        have dl : decide ((i : Int) ≤ (k : Int)) = false := decide_eq_false dl2
        have dl3 : (i : Int) - (k : Int) = ((i - k : Nat) : Int) := by omega
        have dl4 : IntKind.i64.wrap ((i - k : Nat) : Int) = ((i - k : Nat) : Int) := by rw [IntKind.wrap_i64]; omega
        obtain ⟨y, hy⟩ : ∃ y, Hid (y = rootL (ls.take k)) := ⟨_, Lib.hid rfl⟩
        obtain ⟨C, hC⟩ : ∃ C, Hid (C = nums .u8 y) := ⟨_, Lib.hid rfl⟩
        have lp : (ls.take k).length = k := by rw [List.length_take, ← hn.out]; omega
        have lk : (ls.drop k).length = n - k := by rw [List.length_drop, ← hn.out]
        have hy32 : y.length = 32 ∧ bytes y := by rw [hy.out]; exact rootL_is _ (hashes_take HHI.out k)
        have HY32 := Lib.hid hy32
        have zC : Hid (C.size = 32) := Lib.hid (by rw [hC.out, nums_size]; exact hy32.1)
        have X1 : Hid (∀ W, Below w.heap.size w W → Calls Tryd.prog 25 #[.slice (some ad) k c] W fun ev w' => ev = .returned (.agg C) ∧ Below W.heap.size W w') := Lib.hid fun W hW => by
          have := refRoot_any (ls.take k).length (ls.take k) (some ad) c W (Nat.le_refl _) (hashes_take HHI.out k) (((HLI.out.take k).next hW (Nat.le_refl _)).more hW.size) (by rw [lp]; omega) (by omega)
          rwa [lp, ← hy.out, ← hC.out] at this
        obtain ⟨Q, hQ⟩ : ∃ Q, Hid (Q = subL (ls.drop k) (i - k) false) := ⟨_, Lib.hid rfl⟩
        obtain ⟨q, hq⟩ : ∃ q, Hid (q = Q.length) := ⟨_, Lib.hid rfl⟩
        have hQh : Hid (hashes Q) := Lib.hid (by rw [hQ.out]; exact subL_hashes _ _ _ _ rfl (hashes_drop HHI.out k))
        have X0 : Hid (∀ W, Below w.heap.size w W → Calls Tryd.prog 18 #[.slice (some (ad.add (k * 32))) (n - k) (c - k), .int .i64 (((i - k : Nat) : Int)), .bool false] W fun e w' => ∃ A' c', e = .returned (.slice A' q c') ∧ OwnL W w' (.slice A' q c') q Q) := Lib.hid fun W hW => by
          have := ih (ls.drop k) (some (ad.add (k * 32))) (c - k) W ((i - k)) false (by rw [lk]; omega) (hashes_drop HHI.out k) (((HLI.out.drop k).next hW (Nat.le_refl _)).more hW.size) (by rw [lk]; omega) (by omega) (by omega) (by rw [lk]; omega)
          rw [lk, ← hQ.out, ← hq.out] at this
          exact this
        have HN : Hid (P = Q ++ [y]) := Lib.hid (by rw [hP.out, hQ.out, hy.out, subL_right ls i kn hi1 (by rw [← hn.out]; omega) (by rw [hks.out]; exact hlt), hks.out])
        have zP : Hid (P.length = q + 1) := Lib.hid (by rw [HN.out, List.length_append, hq.out]; rfl)
        have zM : Hid (q + 1 ≤ 8192) := Lib.hid (by have := zP.out; have := hP64.out; omega)
        rw [zP.out]
        clear lp lk hy32 hA hh ih hi hb
        go_enter Tryd.func18, Tryd.ntmps18
        go_upto_region 8 with (go_at_call 26; (with_reducible refine (S1.out _).mono ?_); rintro e w' ⟨rfl, rfl⟩)
        refine wp_region_fk (Below w.heap.size w) (.get 0 (.get 1 (.get 2 (.get 3 (.get 4 (.get 5 (.get 7 (.get 8 (.get 9 (.call 6 (.call 10 (.call 11 (.call 12 (.get 13 .done)))))))))))))) (by kernel_rfl) rfl (by kernel_rfl) (by kernel_rfl) (by intro c a d v w h; cases d <;> exact h) (Below.refl w.heap.size w).drew (fun Q' hQ => ?_)
        have HS := Lib.hid (Below.refl w.heap.size w).drew
        have HQ := Lib.hid hQ
        clear hQ
        refine wpFk_get rfl (by rfl) (fun K hK => ?_)
        refine ⟨?_, fun w' hS' => ?_, ?_⟩
        rotate_left
        · go_simp
          try (with_reducible rfl)
        try go_simp
        refine hK _ ?_
        clear hK K
        refine wpFk_get rfl (by rfl) (fun K hK => ?_)
        refine ⟨?_, fun w' hS' => ?_, ?_⟩
        rotate_left
        · go_simp
          try (with_reducible rfl)
        try go_simp
        refine hK _ ?_
        clear hK K
        refine wpFk_get rfl (by rfl) (fun K hK => ?_)
        refine ⟨?_, fun w' hS' => ?_, ?_⟩
        rotate_left
        · go_simp
          try (with_reducible rfl)
        try go_simp
        refine hK _ ?_
        clear hK K
        refine wpFk_get rfl (by rfl) (fun K hK => ?_)
        refine ⟨?_, fun w' hS' => ?_, ?_⟩
        rotate_left
        · go_simp
          try (with_reducible rfl)
        try go_simp
        refine hK _ ?_
        clear hK K
        refine wpFk_get rfl (by rfl) (fun K hK => ?_)
        refine ⟨?_, fun w' hS' => ?_, ?_⟩
        rotate_left
        · go_simp
          try (with_reducible rfl)
        try go_simp
        refine hK _ ?_
        clear hK K
        refine wpFk_get rfl (by rfl) (fun K hK => ?_)
        refine ⟨?_, fun w' hS' => ?_, ?_⟩
        rotate_left
        · go_simp
          try (with_reducible rfl)
        try go_simp
        refine hK _ ?_
        clear hK K
        refine wpFk_get rfl (by rfl) (fun K hK => ?_)
        refine ⟨?_, fun w' hS' => ?_, ?_⟩
        rotate_left
        · go_simp
          try (with_reducible rfl)
        try go_simp
        refine hK _ ?_
        clear hK K
        refine wpFk_get rfl (by rfl) (fun K hK => ?_)
        refine ⟨?_, fun w' hS' => ?_, ?_⟩
        rotate_left
        · go_simp
          try (with_reducible rfl)
        try go_simp
        refine hK _ ?_
        clear hK K
        refine wpFk_get rfl (by rfl) (fun K hK => ?_)
        refine ⟨?_, fun w' hS' => ?_, ?_⟩
        rotate_left
        · go_simp
          try (with_reducible rfl)
        try go_simp
        refine hK _ ?_
        clear hK K
        refine wpFk_call rfl (by rfl) (fun K hK => ?_)
        go_simp
        go_at_call 18
        refine (X0.out _ HS.out).mono ?_
        rintro e w1 ⟨A1, c1, rfl, ho⟩
        have HO := Lib.hid ho.1
        replace HS := Lib.hid (below_new HS.out ho.2)
        clear ho
        refine hK _ _ HS.out ?_
        clear hK K
        refine wpFk_call rfl (by rfl) (fun K hK => ?_)
        go_simp
        go_at_call 25
        refine (X1.out _ HS.out).mono ?_
        rintro e w2 ⟨rfl, hb⟩
        replace HO := Lib.hid (own_below HO.out hb)
        replace HS := Lib.hid (below_new HS.out hb)
        clear hb
        refine hK _ _ HS.out ?_
        clear hK K
        refine wpFk_call rfl (by rfl) (fun K hK => ?_)
        refine wp_buildOne (.tmp 50) rfl C rfl zC.out ?_
        have HRt := Lib.hid (Row.made w2 30 C)
        replace HO := Lib.hid (own_below HO.out ((Below.refl w2.heap.size w2).alloc (Nat.le_refl _) (.cells C 30)))
        replace HS := Lib.hid (HS.out.alloc HS.out.size (.cells C 30))
        try go_simp
        refine hK _ _ HS.out ?_
        clear hK K
        refine wpFk_call rfl (by rfl) (fun K hK => ?_)
        refine wp_appendH (.tmp 46) (.tmp 51) rfl w.heap.size (.slice A1 q c1) q Q [y] rfl HO.out _ 1 1 rfl rfl (fun l hl => by rw [List.mem_singleton.1 hl]; exact HY32.out) (HL.row (by rw [← hC.out]; exact HRt.out) HY32.out.1) zM.out HS.out.size ?_
        intro v2 w3 ho hg
        obtain ⟨A2, c2, rfl⟩ := own_form ho
        have HO2 := Lib.hid ho
        replace HS := Lib.hid (HS.out.grown hg HS.out.size (fun k hk => (HO.out.lt k hk).1))
        clear ho hg
        try go_simp
        refine hK _ _ HS.out ?_
        clear hK K
        refine wpFk_get rfl (by rfl) (fun K hK => ?_)
        refine ⟨?_, fun w' hS' => ?_, ?_⟩
        rotate_left
        · go_simp
          try (with_reducible rfl)
        try go_simp
        refine hK _ ?_
        clear hK K
        refine wpFk_done ?_
        refine HQ.out _ _ ?_
        go_wp2
        go_ret
        exact ⟨A2, c2, rfl, by rw [HN.out]; exact ⟨HO2.out, HS.out⟩⟩
theorem refProof_any (ls : List (List Int)) (hh : hashes ls) (A : Option Addr) (c : Nat) (w : World) (hA : HL w w.heap.size A ls) (hc : ls.length ≤ c) (hcm : c ≤ maxLen) (i : Int) :
    Calls Tryd.prog 9 #[.slice A ls.length c, .int .i64 i] w (GivesL w (proofF ls i)) := by
  obtain ⟨n, hn⟩ : ∃ n, Hid (n = ls.length) := ⟨_, Lib.hid rfl⟩
  by_cases h : i < 0 ∨ (ls.length : Int) < i
  · rw [proofF_no h]
    rw [← hn.out] at h ⊢
    by_cases h1 : i < 0
    · have d1 : decide (i < 0) = true := decide_eq_true h1
      clear h hA hh hc hcm
      go_enter Tryd.func9, Tryd.ntmps9
      go_wp2
      go_ret2
      exact ⟨none, 0, rfl, Nat.le_refl _, by decide, HL.nil _ _ _, Below.refl _ _⟩
    · have d1 : decide (i < 0) = false := decide_eq_false h1
      have h2 : (n : Int) < i := h.resolve_left h1
      have d2 : decide ((n : Int) < i) = true := decide_eq_true h2
      clear h hA hh hc hcm
      go_enter Tryd.func9, Tryd.ntmps9
      go_wp2
      go_ret2
      exact ⟨none, 0, rfl, Nat.le_refl _, by decide, HL.nil _ _ _, Below.refl _ _⟩
  · obtain ⟨I, rfl⟩ : ∃ I : Nat, i = I := ⟨i.toNat, by omega⟩
    rw [proofF_ok (by omega)]
    have d1 : decide ((I : Int) < 0) = false := decide_eq_false (by omega)
    have d2 : decide ((n : Int) < (I : Int)) = false := decide_eq_false (by rw [hn.out]; omega)
    have d3 : decide (n < I) = false := decide_eq_false (by rw [hn.out]; omega)
    by_cases h0 : I = 0
    · subst h0
      rw [proofL_zero]
      rw [← hn.out]
      clear h hA hh hc hcm
      go_enter Tryd.func9, Tryd.ntmps9
      go_wp2
      go_ret2
      exact ⟨none, 0, rfl, Nat.le_refl _, by decide, HL.nil _ _ _, Below.refl _ _⟩
    · rw [proofL_some ls I (by omega)]
      have d5 : ((I : Int) == 0) = false := by simp; omega
      have X0 : Hid (Calls Tryd.prog 18 #[.slice A n c, .int .i64 (I : Int), .bool true] w fun e w' => ∃ A' c', e = .returned (.slice A' (subL ls I true).length c') ∧ (subL ls I true).length ≤ c' ∧ c' ≤ maxLen ∧ HL w' w'.heap.size A' (subL ls I true) ∧ Below w.heap.size w w') := Lib.hid (by
        have := refSub_own ls.length ls A c w I true (Nat.le_refl _) hh hA hc (by unfold maxLen at hcm; omega) (by omega) (by omega)
        rw [← hn.out] at this
        refine this.mono ?_
        rintro e w' ⟨A', c', rfl, ho⟩
        obtain ⟨A2, c2, e1, e2, e3, e4⟩ := ho.lead2 (subL_hashes _ ls I true rfl hh)
        cases e1
        exact ⟨A', c', rfl, e2, e3, e4, ho.2⟩)
      obtain ⟨P, hP⟩ : ∃ P, Hid (P = subL ls I true) := ⟨_, Lib.hid rfl⟩
      rw [← hn.out]
      rw [← hP.out] at X0 ⊢
      obtain ⟨q, hq⟩ : ∃ q, Hid (q = P.length) := ⟨_, Lib.hid rfl⟩
      rw [← hq.out] at X0
      clear h hA hh hc hcm hn
      go_enter Tryd.func9, Tryd.ntmps9
      go_wp2_with (go_at_call 18; (with_reducible refine X0.out.mono ?_); rintro e w1 ⟨A1, c1, rfl, hle, hcm, hl, hb⟩; have HLE := Lib.hid hle; have HCM := Lib.hid hcm; have HL1 := Lib.hid hl; have HB1 := Lib.hid hb; clear hle hcm hl hb)
      go_ret2
      exact ⟨A1, c1, by rw [← hq.out]; rfl, by rw [← hq.out]; exact HLE.out, HCM.out, HL1.out, HB1.out⟩
end Go.Proofs.YtkjgkeigfebcmaaDoor
