/-
  The walk of the statement ProofsBack: it returns true; what it makes is new memory, nothing that was there changes. Conditions: the two tables as they were laid, a list of hashes in memory.
-/
import Derived.Test.YtkjgkeigfebcmaaDoorProofFound
import Derived.Test.YtkjgkeigfebcmaaDoorPathCopy
namespace Go.Proofs.YtkjgkeigfebcmaaDoor
open Go.RowKit Go.Great
set_option linter.unusedVariables false
set_option maxRecDepth 100000

/-- What the statement holds: the hash, the root, the leaves. -/
structure BkH (w : World) (g5 : Nat) (H R : Array Value) (A : Option Addr) (ls : List (List Int)) (W : World) : Prop where
  h : Row W w.heap.size 30 H
  rt : Row W g5 30 R
  ls : HW W A ls
  tab : Tab W
  below : Below w.heap.size w W
theorem BkH.next {w W W1 : World} {g5 : Nat} {H R : Array Value} {A : Option Addr} {ls : List (List Int)} (h : BkH w g5 H R A ls W) (hb : Below W.heap.size W W1) : BkH w g5 H R A ls W1 :=
  ⟨h.h.next hb, h.rt.next hb, h.ls.next hb, h.tab.next hb, below_new h.below hb⟩
/-- With the elder root, and the proof. -/
structure BpH (w : World) (g5 g9 : Nat) (H R X : Array Value) (A Ap : Option Addr) (ls P : List (List Int)) (W : World) : Prop where
  bk : BkH w g5 H R A ls W
  x : Row W g9 30 X
  pf : HW W Ap P
theorem BpH.next {w W W1 : World} {g5 g9 : Nat} {H R X : Array Value} {A Ap : Option Addr} {ls P : List (List Int)} (h : BpH w g5 g9 H R X A Ap ls P W) (hb : Below W.heap.size W W1) : BpH w g5 g9 H R X A Ap ls P W1 :=
  ⟨h.bk.next hb, h.x.next hb, h.pf.next hb⟩
attribute [local go_sem ↓ high] read_at write_at eq_at neq_at
set_option maxHeartbeats 40000000 in
theorem pbacklaw_any (ls : List (List Int)) (hh : hashes ls) (A : Option Addr) (c : Nat) (h : List Int) (h32 : h.length = 32 ∧ bytes h) (w : World) (hA : HL w w.heap.size A ls) (hT : Tab w) (hc : ls.length ≤ c) (hcm : c ≤ maxLen) :
    Calls Tryd.prog 5 #[.slice A ls.length c, .agg (nums .u8 h)] w fun e w' => e = .returned (.bool true) ∧ Below w.heap.size w w' := by
  obtain ⟨n, hn⟩ : ∃ n, Hid (n = ls.length) := ⟨_, Lib.hid rfl⟩
  obtain ⟨H, hH⟩ : ∃ H, Hid (H = nums .u8 h) := ⟨_, Lib.hid rfl⟩
  have zH : Hid (H.size = 32) := Lib.hid (by rw [hH.out, nums_size]; exact h32.1)
  have hcm2 := hcm
  unfold maxLen at hcm2
  have hnm : n ≤ 9223372036854775807 := by rw [hn.out]; omega
  have hnc : n ≤ c := by rw [hn.out]; exact hc
  have HT := Lib.hid hT
  have HAw : Hid (HW w A ls) := Lib.hid hA
  have HC := Lib.hid (And.intro hc hcm)
  have HH32 := Lib.hid h32
  rw [← hn.out, ← hH.out]
  by_cases h40 : 40 < n
  · have d1 : decide (40 < (n : Int)) = true := decide_eq_true (by omega)
    have d2 : (40 : Int) < (n : Int) := by omega
    clear hA hT hc hcm hcm2 h32 hh
    go_enter Tryd.func5, Tryd.ntmps5
    go_upto_region 1 with fail
    refine world_gen (fun W => Tab W ∧ Below w.heap.size w W) ⟨HT.out.next ((Below.refl _ _).alloc (Nat.le_refl _) _), (Below.refl _ _).alloc (Nat.le_refl _) _⟩ (fun wx HX => ?_)
    have HX := Lib.hid HX
    go_wp2_with (go_at_call 7; (with_reducible refine (proved_any _ HX.out.1).mono ?_); rintro e w1 ⟨rfl, hb⟩; have HB1 := Lib.hid (below_new HX.out.2 hb); clear hb)
    go_ret
    exact ⟨rfl, HB1.out⟩
  · have d1 : decide (40 < (n : Int)) = false := decide_eq_false (by omega)
    have d2 : ¬ (40 : Int) < (n : Int) := by omega
    have d3 : (n : Int) ≤ 40 := by omega
    obtain ⟨R, hR⟩ : ∃ R, Hid (R = nums .u8 (rootL ls)) := ⟨_, Lib.hid rfl⟩
    have hrt := rootL_is ls hh
    have zR : Hid (R.size = 32) := Lib.hid (by rw [hR.out, nums_size]; exact hrt.1)
    have oR : Hid (R.all (·.oneCell') = true) := Lib.hid (by rw [hR.out]; exact nums_one _ _)
    have RR : Hid (∀ W, HW W A ls → Tab W → Calls Tryd.prog 14 #[.slice A n c] W fun ev w' => ev = .returned (.agg R) ∧ Below W.heap.size W w') := Lib.hid fun W h1 h2 => by
      have := root_any ls hh A c W h1 h2 (by rw [← hn.out]; exact hnm)
      rwa [← hn.out, ← hR.out] at this
    have RI : Hid (∀ W i, i ≤ n → HW W A ls → Tab W → Calls Tryd.prog 14 #[.slice A i c] W fun ev w' => ev = .returned (.agg (nums .u8 (rootL (ls.take i)))) ∧ Below W.heap.size W w') := Lib.hid fun W i hi h1 h2 => by
      have lt : (ls.take i).length = i := by rw [List.length_take, ← hn.out]; omega
      have := root_any (ls.take i) (hashes_take hh i) A c W (HL.take h1 i) h2 (by rw [lt]; omega)
      rwa [lt] at this
    -- Check of a list, whichever it is
    have CK : Hid (∀ W B d i (P : List (List Int)) (X : Array Value) (E : Int), i ≤ n → HW W B P → Tab W → hashes P → P.length ≤ d → d ≤ maxLen → X = nums .u8 (rootL (ls.take i)) → checkP (i : Int) (n : Int) (rootL (ls.take i)) (rootL ls) P = E → Calls Tryd.prog 11 #[.int .i64 (i : Int), .int .i64 (n : Int), .agg X, .agg R, .slice B P.length d] W fun e w' => e = .returned (.int .i64 E) ∧ Below W.heap.size W w') := Lib.hid fun W B d i P X E hi hB hTW hP hd hdm hX hE => by
      have := pcheck_any (rootL (ls.take i)) (rootL ls) (rootL_is _ (hashes_take hh i)) hrt (i : Int) (n : Int) (by omega) (by omega) P hP B d W hB hTW hd (by unfold maxLen at hdm; omega)
      rw [hE, ← hR.out, ← hX] at this
      exact this
    have HHs := Lib.hid hh
    clear hA hT hc hcm hcm2 h32 hh hrt
    go_enter Tryd.func5, Tryd.ntmps5
    go_upto_region 1 with fail
    refine world_gen (fun W => Row W w.heap.size 30 H ∧ Below w.heap.size w W) ⟨Row.made _ _ _, (Below.refl _ _).alloc (Nat.le_refl _) _⟩ (fun wx HX => ?_)
    have HX : Hid (Row wx w.heap.size 30 H ∧ HW wx A ls ∧ Tab wx ∧ Below w.heap.size w wx) := Lib.hid ⟨HX.1, HAw.out.next HX.2, HT.out.next HX.2, HX.2⟩
    go_wp2_with (go_at_call 14; (with_reducible refine (RR.out _ HX.out.2.1 HX.out.2.2.1).mono ?_); rintro e w1 ⟨rfl, hb⟩; obtain ⟨w2, s2, hr2, hb2, hz2⟩ := made_write w1 R zR.out oR.out; have H2 : Hid (BkH w w1.heap.size H R A ls w2) := Lib.hid ⟨(HX.out.1.next hb).next hb2, hr2, (HX.out.2.1.next hb).next hb2, (HX.out.2.2.1.next hb).next hb2, below_new (below_new HX.out.2.2.2 hb) hb2⟩; clear hr2 hb2 hz2 hb)
    clear RR HX
    go_loopw [6] (fun s6 wr => ∃ i : Nat, s6 = .int .i64 (i : Int) ∧ i ≤ n + 1 ∧ Hid (BkH w w1.heap.size H R A ls wr)) (fun s6 _ => (n + 1 - intOf s6).toNat)
    case atStart => exact ⟨0, rfl, by omega, H2⟩
    case round =>
      clear H2
      obtain ⟨i, rfl, hin, HB⟩ := hrel
      by_cases hlt : i ≤ n
      · have d4 : (i : Int) ≤ (n : Int) := by omega
        have d41 : (i : Int) ≤ (c : Int) := by omega
        have d42 : (0 : Int) ≤ (i : Int) := by omega
        have hil : i ≤ ls.length := by rw [← hn.out]; exact hlt
        have hwi : IntKind.i64.wrap (i : Int) = (i : Int) := by rw [IntKind.wrap_i64]; omega
        have hwn : IntKind.i64.wrap (n : Int) = (n : Int) := by rw [IntKind.wrap_i64]; omega
        obtain ⟨x, hx⟩ : ∃ x, Hid (x = rootL (ls.take i)) := ⟨_, Lib.hid rfl⟩
        obtain ⟨X, hX⟩ : ∃ X, Hid (X = nums .u8 (rootL (ls.take i))) := ⟨_, Lib.hid rfl⟩
        have zX : Hid (X.size = 32) := Lib.hid (by rw [hX.out, nums_size]; exact (rootL_is _ (hashes_take HHs.out i)).1)
        have oX : Hid (X.all (·.oneCell') = true) := Lib.hid (by rw [hX.out]; exact nums_one _ _)
        obtain ⟨P, hP⟩ : ∃ P, Hid (P = proofL ls i) := ⟨_, Lib.hid rfl⟩
        obtain ⟨q, hq⟩ : ∃ q, Hid (q = P.length) := ⟨_, Lib.hid rfl⟩
        have hPh : Hid (hashes P) := Lib.hid (by rw [hP.out]; exact proofL_hashes i HHs.out)
        have hq6 : q ≤ 13 := by rw [hq.out, hP.out]; exact proofL_length 12 ls i (by rw [← hn.out]; omega)
        have d5 : (q : Int) ≤ 13 := by omega
        have d6 : ¬ (13 : Int) < (q : Int) := by omega
        have d7 : decide (13 < (q : Int)) = false := decide_eq_false d6
        have hwq : IntKind.i64.wrap (q : Int) = (q : Int) := by rw [IntKind.wrap_i64]; omega
        have KF : Hid (checkP (i : Int) (n : Int) (rootL (ls.take i)) (rootL ls) P = 0) := Lib.hid (by
          have := checkP_proof (ls := ls) (m := i) hil (by rw [← hn.out]; omega)
          rw [← hn.out, ← hP.out] at this; exact this)
        have KN : Hid (∀ P' : List (List Int), P'.length ≠ q → checkP (i : Int) (n : Int) (rootL (ls.take i)) (rootL ls) P' = 80) := Lib.hid fun P' h' => by
          have := checkP_length (ls := ls) (m := i) (older := rootL (ls.take i)) (newer := rootL ls) (p := P') hil (by rw [← hn.out]; omega) (by rw [← hP.out, ← hq.out]; exact h')
          rw [← hn.out] at this; exact this
        have PP : Hid (Calls Tryd.prog 8 #[.slice A n c, .int .i64 (i : Int)] wr fun e w' => ∃ A' c', e = .returned (.tuple #[.slice A' q c', .int .i64 0]) ∧ (q ≤ c' ∧ c' ≤ maxLen) ∧ HW w' A' P ∧ Below wr.heap.size wr w') := Lib.hid (by
          have := proof_any ls HHs.out A c wr HB.out.ls HB.out.tab HC.out.1 HC.out.2 (i : Int)
          rw [proofF_ok hil, ← hP.out, ← hn.out] at this
          refine this.mono ?_
          rintro e w' ⟨A', c', he, h1, h2, h3, h4⟩
          exact ⟨A', c', by rw [hq.out]; exact he, ⟨by rw [hq.out]; exact h1, h2⟩, h3, h4⟩)
        have RX : Hid (∀ W, HW W A ls → Tab W → Calls Tryd.prog 14 #[.slice A i c] W fun ev w' => ev = .returned (.agg X) ∧ Below W.heap.size W w') := Lib.hid fun W h1 h2 => by
          rw [hX.out]; exact RI.out W i hlt h1 h2
        clear hil
        go_upto_region 8 with (go_at_call 8; (with_reducible refine PP.out.mono ?_); rintro e w3 ⟨Ap, cp, rfl, hcp, hA, hb⟩; have H3 : Hid (BkH w w1.heap.size H R A ls w3) := Lib.hid (HB.out.next hb); have HP3 := Lib.hid hA; have HCP := Lib.hid hcp; clear hb hA hcp)
        clear PP HB
        have H3a := Lib.hid H3.out.ls
        have H3t := Lib.hid H3.out.tab
        go_upto_region 9 with (go_at_call 14; (with_reducible refine (RX.out _ H3a.out H3t.out).mono ?_); rintro e w4 ⟨rfl, hb⟩; obtain ⟨w5, s5, hr5, hb5, hz5⟩ := made_write w4 X zX.out oX.out; have H5 : Hid (BpH w w1.heap.size w4.heap.size H R X A Ap ls P w5) := Lib.hid ⟨(H3.out.next hb).next hb5, hr5, (HP3.out.next hb).next hb5⟩; clear hr5 hb5 hz5 hb)
        clear s5 H3 HP3 H3a H3t RX
        obtain ⟨g9, hg9⟩ : ∃ g9, w4.heap.size = g9 := ⟨_, rfl⟩
        rw [hg9] at H5 ⊢
        clear hg9
        have hcp1 : cp ≤ 9223372036854775807 := by have := HCP.out.2; unfold maxLen at this; omega
        have hcp2 : q ≤ cp := HCP.out.1
        have C0 : Hid (∀ W, Below w5.heap.size w5 W → Calls Tryd.prog 11 #[.int .i64 (i : Int), .int .i64 (n : Int), .agg X, .agg R, .slice Ap q cp] W fun e w' => e = .returned (.int .i64 0) ∧ Below W.heap.size W w') := Lib.hid fun W hW => by
          have := CK.out W Ap cp i P X 0 hlt (H5.out.next hW).pf (H5.out.next hW).bk.tab hPh.out (by rw [← hq.out]; exact HCP.out.1) HCP.out.2 hX.out KF.out
          rwa [← hq.out] at this
        have s6 := H5.out.x.read zX.out
        have s7 := H5.out.bk.rt.read zR.out
        go_upto_region 11 with (go_at_call 11; (with_reducible refine (C0.out _ (Below.refl _ _)).mono ?_); rintro e w6 ⟨rfl, hb⟩; have H6 := Lib.hid (H5.out.next hb); clear hb s6 s7)
        clear C0 H5
        have hqsm : Hid (q ≤ 8192) := Lib.hid (by omega)
        have hqsm1 : Hid (q + 1 ≤ 8192) := Lib.hid (by omega)
        have hPl : Hid ((P ++ [h]).length = q + 1) := Lib.hid (by rw [List.length_append, hq.out]; rfl)
        have C3 : Hid (∀ W A2 c2, Below w6.heap.size w6 W → HW W A2 (P ++ [h]) → (q + 1 ≤ c2 ∧ c2 ≤ maxLen) → Calls Tryd.prog 11 #[.int .i64 (i : Int), .int .i64 (n : Int), .agg X, .agg R, .slice A2 (q + 1) c2] W fun e w' => e = .returned (.int .i64 80) ∧ Below W.heap.size W w') := Lib.hid fun W A2 c2 hW h1 h2 => by
          have := CK.out W A2 c2 i (P ++ [h]) X 80 hlt h1 (H6.out.next hW).bk.tab (hashes_snoc hPh.out HH32.out) (by rw [hPl.out]; exact h2.1) h2.2 hX.out (KN.out _ (by rw [hPl.out]; omega))
          rwa [hPl.out] at this
        refine wp_region_fk (Below w6.heap.size w6) (.get 0 (.get 1 (.get 2 (.get 3 (.get 4 (.get 5 (.get 7 (.fork 6 8 (.call 8 (.call 9 (.call 10 (.get 11 .done)))) (.call 6 (.call 9 (.call 10 (.get 11 .done)))))))))))) (by kernel_rfl) rfl (by kernel_rfl) (by kernel_rfl) (by intro c a d v w h; cases d <;> exact h) (Below.refl w6.heap.size w6).drew (fun Q' hQ => ?_)
        have HS := Lib.hid (Below.refl w6.heap.size w6).drew
        have HQ := Lib.hid hQ
        clear hQ
        refine wpFk_get rfl (by rfl) (fun K hK => ?_)
        refine ⟨?_, fun w' hS' => ?_, ?_⟩
        rotate_left
        · go_simp
          try (with_reducible rfl)
        try go_simp
        refine hK _ ?_
        clear hK K
        refine wpFk_get rfl (by rfl) (fun K hK => ?_)
        refine ⟨?_, fun w' hS' => ?_, ?_⟩
        rotate_left
        · go_simp
          try (with_reducible rfl)
        try go_simp
        refine hK _ ?_
        clear hK K
        refine wpFk_get rfl (by rfl) (fun K hK => ?_)
        refine ⟨?_, fun w' hS' => ?_, ?_⟩
        rotate_left
        · go_simp
          try (with_reducible rfl)
        try go_simp
        refine hK _ ?_
        clear hK K
        refine wpFk_get rfl (by rfl) (fun K hK => ?_)
        refine ⟨_, fun w' hS' => get_load rfl rfl ((H6.out.next hS').x.read zX.out), ?_⟩
        try go_simp
        refine hK _ ?_
        clear hK K
        refine wpFk_get rfl (by rfl) (fun K hK => ?_)
        refine ⟨_, fun w' hS' => get_load rfl rfl ((H6.out.next hS').bk.rt.read zR.out), ?_⟩
        try go_simp
        refine hK _ ?_
        clear hK K
        refine wpFk_get rfl (by rfl) (fun K hK => ?_)
        refine ⟨?_, fun w' hS' => ?_, ?_⟩
        rotate_left
        · go_simp
          try (with_reducible rfl)
        try go_simp
        refine hK _ ?_
        clear hK K
        refine wpFk_get rfl (by rfl) (fun K hK => ?_)
        refine ⟨_, fun w' hS' => get_load rfl rfl ((H6.out.next hS').bk.h.read zH.out), ?_⟩
        try go_simp
        refine hK _ ?_
        clear hK K
        refine wpFk_fork ?_ ?_
        · refine wpFk_call rfl (by rfl) (fun K hK => ?_)
          refine wp_appendC (.const (.slice none 0 0)) (.tmp 54) rfl w6.heap.size P rfl Ap q cp rfl hq.out hPh.out (H6.out.next HS.out).pf hqsm.out HS.out.size ?_
          intro v1 w7 ho hg
          have HO : Hid (w7.ownsRow w6.heap.size 30 32 v1 q (cellsL P)) := Lib.hid ho
          replace HS := Lib.hid (HS.out.grown hg HS.out.size (by intro k hk; simp at hk))
          clear ho hg
          try go_simp
          refine hK _ _ HS.out ?_
          clear hK K
          refine wpFk_call rfl (by rfl) (fun K hK => ?_)
          refine wp_buildOne (.tmp 56) rfl H rfl zH.out ?_
          have HRt := Lib.hid (Row.made w7 30 H)
          replace HO := Lib.hid (own_below HO.out ((Below.refl w7.heap.size w7).alloc (Nat.le_refl _) (.cells H 30)))
          replace HS := Lib.hid (HS.out.alloc HS.out.size (.cells H 30))
          try go_simp
          refine hK _ _ HS.out ?_
          clear hK K
          refine wpFk_call rfl (by rfl) (fun K hK => ?_)
          refine wp_appendH (.tmp 55) (.tmp 57) rfl w6.heap.size v1 q P [h] rfl HO.out _ 1 1 rfl rfl (fun l hl => by rw [List.mem_singleton.1 hl]; exact HH32.out) (HL.row (by rw [← hH.out]; exact HRt.out) HH32.out.1) hqsm1.out HS.out.size ?_
          intro v2 w8 ho hg
          obtain ⟨A2, c2, rfl⟩ := own_form ho
          have HP8 : Hid (HW w8 A2 (P ++ [h])) := Lib.hid (own_HL (by rw [hPl.out]; exact ho) (hashes_snoc hPh.out HH32.out))
          have HC2 : Hid (q + 1 ≤ c2 ∧ c2 ≤ maxLen) := Lib.hid ⟨(own_some ho).1, by have := (own_some ho).2.1; unfold maxLen; omega⟩
          replace HS := Lib.hid (HS.out.grown hg HS.out.size (fun k hk => (HO.out.lt k hk).1))
          clear ho hg
          try go_simp
          refine hK _ _ HS.out ?_
          clear hK K
          refine wpFk_call rfl (by rfl) (fun K hK => ?_)
          go_simp
          go_at_call 11
          refine (C3.out _ _ _ HS.out HP8.out HC2.out).mono ?_
          rintro e w2x ⟨rfl, hb⟩
          replace HS := Lib.hid (below_new HS.out hb)
          clear hb
          refine hK _ _ HS.out ?_
          clear hK K
          refine wpFk_get rfl (by rfl) (fun K hK => ?_)
          refine ⟨?_, fun w' hS' => ?_, ?_⟩
          rotate_left
          · go_simp
            try (with_reducible rfl)
          try go_simp
          refine hK _ ?_
          clear hK K
          refine wpFk_done ?_
          refine HQ.out _ _ ?_
          go_upto_region 13 with fail
          refine world_gen (fun W => BpH w w1.heap.size g9 H R X A Ap ls P W) (H6.out.next HS.out) (fun w9 H9 => ?_)
          have H9 := Lib.hid H9
          clear HS HQ H6
          by_cases hq0 : q = 0
          · have e2 : decide (0 < (q : Int)) = false := decide_eq_false (by omega)
            have e3 : ¬ (0 : Int) < (q : Int) := by omega
            have e31 : decide (0 < q) = false := decide_eq_false (by omega)
            have e32 : ¬ 0 < q := by omega
            clear hq0
            refine wp_region_fk (Below w9.heap.size w9) (.get 0 (.get 1 (.get 2 (.get 3 (.get 4 (.get 5 (.get 6 (.get 7 (.get 8 (.get 9 (.get 10 (.get 11 (.get 12 (.get 13 (.get 14 (.get 15 (.get 16 (.get 17 (.get 18 (.get 19 (.get 20 (.get 21 (.get 22 (.get 23 (.get 24 (.get 25 (.get 26 (.get 27 .done)))))))))))))))))))))))))))) (by kernel_rfl) rfl (by kernel_rfl) (by kernel_rfl) (by intro c a d v w h; cases d <;> exact h) (Below.refl w9.heap.size w9).drew (fun Q' hQ => ?_)
            have HS := Lib.hid (Below.refl w9.heap.size w9).drew
            have HQ := Lib.hid hQ
            clear hQ
            refine wpFk_get rfl (by rfl) (fun K hK => ?_)
            refine ⟨?_, fun w' hS' => ?_, ?_⟩
            rotate_left
            · go_simp
              try (with_reducible rfl)
            try go_simp
            refine hK _ ?_
            clear hK K
            refine wpFk_get rfl (by rfl) (fun K hK => ?_)
            refine ⟨?_, fun w' hS' => ?_, ?_⟩
            rotate_left
            · go_simp
              try (with_reducible rfl)
            try go_simp
            refine hK _ ?_
            clear hK K
            refine wpFk_get rfl (by rfl) (fun K hK => ?_)
            refine ⟨?_, fun w' hS' => ?_, ?_⟩
            rotate_left
            · go_simp
              try (with_reducible rfl)
            try go_simp
            refine hK _ ?_
            clear hK K
            refine wpFk_get rfl (by rfl) (fun K hK => ?_)
            refine ⟨?_, fun w' hS' => ?_, ?_⟩
            rotate_left
            · go_simp
              try (with_reducible rfl)
            try go_simp
            refine hK _ ?_
            clear hK K
            refine wpFk_skip rfl (by rfl) (fun K hK => ?_)
            try go_simp
            refine hK _ ?_
            clear hK K
            refine wpFk_skip rfl (by rfl) (fun K hK => ?_)
            try go_simp
            refine hK _ ?_
            clear hK K
            refine wpFk_skip rfl (by rfl) (fun K hK => ?_)
            try go_simp
            refine hK _ ?_
            clear hK K
            refine wpFk_skip rfl (by rfl) (fun K hK => ?_)
            try go_simp
            refine hK _ ?_
            clear hK K
            refine wpFk_skip rfl (by rfl) (fun K hK => ?_)
            try go_simp
            refine hK _ ?_
            clear hK K
            refine wpFk_skip rfl (by rfl) (fun K hK => ?_)
            try go_simp
            refine hK _ ?_
            clear hK K
            refine wpFk_skip rfl (by rfl) (fun K hK => ?_)
            try go_simp
            refine hK _ ?_
            clear hK K
            refine wpFk_skip rfl (by rfl) (fun K hK => ?_)
            try go_simp
            refine hK _ ?_
            clear hK K
            refine wpFk_skip rfl (by rfl) (fun K hK => ?_)
            try go_simp
            refine hK _ ?_
            clear hK K
            refine wpFk_skip rfl (by rfl) (fun K hK => ?_)
            try go_simp
            refine hK _ ?_
            clear hK K
            refine wpFk_skip rfl (by rfl) (fun K hK => ?_)
            try go_simp
            refine hK _ ?_
            clear hK K
            refine wpFk_skip rfl (by rfl) (fun K hK => ?_)
            try go_simp
            refine hK _ ?_
            clear hK K
            refine wpFk_skip rfl (by rfl) (fun K hK => ?_)
            try go_simp
            refine hK _ ?_
            clear hK K
            refine wpFk_skip rfl (by rfl) (fun K hK => ?_)
            try go_simp
            refine hK _ ?_
            clear hK K
            refine wpFk_skip rfl (by rfl) (fun K hK => ?_)
            try go_simp
            refine hK _ ?_
            clear hK K
            refine wpFk_skip rfl (by rfl) (fun K hK => ?_)
            try go_simp
            refine hK _ ?_
            clear hK K
            refine wpFk_skip rfl (by rfl) (fun K hK => ?_)
            try go_simp
            refine hK _ ?_
            clear hK K
            refine wpFk_skip rfl (by rfl) (fun K hK => ?_)
            try go_simp
            refine hK _ ?_
            clear hK K
            refine wpFk_skip rfl (by rfl) (fun K hK => ?_)
            try go_simp
            refine hK _ ?_
            clear hK K
            refine wpFk_skip rfl (by rfl) (fun K hK => ?_)
            try go_simp
            refine hK _ ?_
            clear hK K
            refine wpFk_skip rfl (by rfl) (fun K hK => ?_)
            try go_simp
            refine hK _ ?_
            clear hK K
            refine wpFk_skip rfl (by rfl) (fun K hK => ?_)
            try go_simp
            refine hK _ ?_
            clear hK K
            refine wpFk_skip rfl (by rfl) (fun K hK => ?_)
            try go_simp
            refine hK _ ?_
            clear hK K
            refine wpFk_get rfl (by rfl) (fun K hK => ?_)
            refine ⟨?_, fun w' hS' => ?_, ?_⟩
            rotate_left
            · go_simp
              try (with_reducible rfl)
            try go_simp
            refine hK _ ?_
            clear hK K
            refine wpFk_done ?_
            refine HQ.out _ _ ?_
            go_wp2
            go_roundw
            case rel => exact ⟨i + 1, by go_num, by omega, Lib.hid (H9.out.next HS.out).bk⟩
            case measure => simp [intOf]; omega
          · have e2 : decide (0 < (q : Int)) = true := decide_eq_true (by omega)
            have e3 : (0 : Int) < (q : Int) := by omega
            have e31 : decide (0 < q) = true := decide_eq_true (by omega)
            have e32 : 0 < q := by omega
            obtain ⟨m, hm⟩ : ∃ m : Nat, Hid (q = m + 1) := ⟨q - 1, Lib.hid (by omega)⟩
            have e4 : (q : Int) - 1 = (m : Int) := by have := hm.out; omega
            have e5 : ((q : Int) - 1).toNat = m := by have := hm.out; omega
            have e6 : ((cp : Int) - 1).toNat = cp - 1 := by omega
            have e7 : (1 : Int) ≤ (q : Int) := by omega
            have e8 : (1 : Int) ≤ (cp : Int) := by omega
            have e9 : (q : Int) ≤ (cp : Int) := by omega
            have e10 : (m : Int) ≤ (cp : Int) := by omega
            have e11 : (m : Int) ≤ (q : Int) := by have := hm.out; omega
            have e12 : IntKind.i64.wrap (m : Int) = (m : Int) := by rw [IntKind.wrap_i64]; omega
            obtain ⟨pd, rfl⟩ := HL.some H9.out.pf 0 (by rw [← hq.out]; omega)
            obtain ⟨AX, eAX⟩ : ∃ Z, (if cp = 1 then some pd else some ⟨pd.block, pd.off + 32, none⟩) = Z := ⟨_, rfl⟩
            have e13 : q - 1 = m := by have := hm.out; omega
            have ld : (P.drop 1).length = m := by rw [List.length_drop, ← hq.out, hm.out]; omega
            have lt : (P.take m).length = m := by rw [List.length_take, ← hq.out, hm.out]; omega
            have C4 : Hid (∀ W, Below w9.heap.size w9 W → Calls Tryd.prog 11 #[.int .i64 (i : Int), .int .i64 (n : Int), .agg X, .agg R, .slice AX m (cp - 1)] W fun e w' => e = .returned (.int .i64 80) ∧ Below W.heap.size W w') := Lib.hid fun W hW => by
              have h1 : HL W W.heap.size AX (P.drop 1) := by
                have h0 := HL.rest (H9.out.next hW).pf cp 1 (by rw [← hq.out]; exact hcp2)
                rw [show pd.add (1 * 32) = ⟨pd.block, pd.off + 32, none⟩ from rfl] at h0
                rw [← eAX]; exact h0
              have := CK.out W AX (cp - 1) i (P.drop 1) X 80 hlt h1 (H9.out.next hW).bk.tab (hashes_drop hPh.out 1) (by rw [ld]; have := hm.out; omega) (by have := HCP.out.2; omega) hX.out (KN.out _ (by rw [ld, hm.out]; omega))
              rwa [ld] at this
            have C5 : Hid (∀ W, Below w9.heap.size w9 W → Calls Tryd.prog 11 #[.int .i64 (i : Int), .int .i64 (n : Int), .agg X, .agg R, .slice (some pd) m cp] W fun e w' => e = .returned (.int .i64 80) ∧ Below W.heap.size W w') := Lib.hid fun W hW => by
              have := CK.out W (some pd) cp i (P.take m) X 80 hlt (HL.take (H9.out.next hW).pf m) (H9.out.next hW).bk.tab (hashes_take hPh.out m) (by rw [lt]; have := hm.out; omega) HCP.out.2 hX.out (KN.out _ (by rw [lt, hm.out]; omega))
              rwa [lt] at this
            clear ld lt
            refine wp_region_fk (Below w9.heap.size w9) (.get 0 (.get 1 (.get 2 (.get 3 (.get 4 (.get 5 (.get 6 (.get 7 (.get 8 (.get 9 (.get 10 (.call 11 (.get 12 (.get 13 (.get 14 (.get 15 (.get 16 (.get 17 (.get 18 (.get 19 (.get 20 (.get 21 (.get 22 (.get 23 (.call 24 (.get 25 (.get 26 (.get 27 .done)))))))))))))))))))))))))))) (by kernel_rfl) rfl (by kernel_rfl) (by kernel_rfl) (by intro c a d v w h; cases d <;> exact h) (Below.refl w9.heap.size w9).drew (fun Q' hQ => ?_)
            have HS := Lib.hid (Below.refl w9.heap.size w9).drew
            have HQ := Lib.hid hQ
            clear hQ
            refine wpFk_get rfl (by rfl) (fun K hK => ?_)
            refine ⟨?_, fun w' hS' => ?_, ?_⟩
            rotate_left
            · go_simp
              try (with_reducible rfl)
            try go_simp
            refine hK _ ?_
            clear hK K
            refine wpFk_get rfl (by rfl) (fun K hK => ?_)
            refine ⟨?_, fun w' hS' => ?_, ?_⟩
            rotate_left
            · go_simp
              try (with_reducible rfl)
            try go_simp
            refine hK _ ?_
            clear hK K
            refine wpFk_get rfl (by rfl) (fun K hK => ?_)
            refine ⟨?_, fun w' hS' => ?_, ?_⟩
            rotate_left
            · go_simp
              try (with_reducible rfl)
            try go_simp
            refine hK _ ?_
            clear hK K
            refine wpFk_get rfl (by rfl) (fun K hK => ?_)
            refine ⟨?_, fun w' hS' => ?_, ?_⟩
            rotate_left
            · go_simp
              try (with_reducible rfl)
            try go_simp
            refine hK _ ?_
            clear hK K
            refine wpFk_get rfl (by rfl) (fun K hK => ?_)
            refine ⟨?_, fun w' hS' => ?_, ?_⟩
            rotate_left
            · go_simp
              try (with_reducible rfl)
            try go_simp
            refine hK _ ?_
            clear hK K
            refine wpFk_get rfl (by rfl) (fun K hK => ?_)
            refine ⟨?_, fun w' hS' => ?_, ?_⟩
            rotate_left
            · go_simp
              try (with_reducible rfl)
            try go_simp
            refine hK _ ?_
            clear hK K
            refine wpFk_get rfl (by rfl) (fun K hK => ?_)
            refine ⟨?_, fun w' hS' => ?_, ?_⟩
            rotate_left
            · go_simp
              try (with_reducible rfl)
            try go_simp
            refine hK _ ?_
            clear hK K
            refine wpFk_get rfl (by rfl) (fun K hK => ?_)
            refine ⟨_, fun w' hS' => get_load rfl rfl ((H9.out.next hS').x.read zX.out), ?_⟩
            try go_simp
            refine hK _ ?_
            clear hK K
            refine wpFk_get rfl (by rfl) (fun K hK => ?_)
            refine ⟨_, fun w' hS' => get_load rfl rfl ((H9.out.next hS').bk.rt.read zR.out), ?_⟩
            try go_simp
            refine hK _ ?_
            clear hK K
            refine wpFk_get rfl (by rfl) (fun K hK => ?_)
            refine ⟨?_, fun w' hS' => ?_, ?_⟩
            rotate_left
            · go_simp
              try (with_reducible rfl)
            try go_simp
            refine hK _ ?_
            clear hK K
            refine wpFk_get rfl (by rfl) (fun K hK => ?_)
            refine ⟨?_, fun w' hS' => ?_, ?_⟩
            rotate_left
            · go_simp
              try (with_reducible rfl)
            try go_simp
            refine hK _ ?_
            clear hK K
            refine wpFk_call rfl (by rfl) (fun K hK => ?_)
            go_simp
            go_at_call 11
            refine (C4.out _ HS.out).mono ?_
            rintro e w2x ⟨rfl, hb⟩
            replace HS := Lib.hid (below_new HS.out hb)
            clear hb
            refine hK _ _ HS.out ?_
            clear hK K
            refine wpFk_get rfl (by rfl) (fun K hK => ?_)
            refine ⟨?_, fun w' hS' => ?_, ?_⟩
            rotate_left
            · go_simp
              try (with_reducible rfl)
            try go_simp
            refine hK _ ?_
            clear hK K
            refine wpFk_get rfl (by rfl) (fun K hK => ?_)
            refine ⟨?_, fun w' hS' => ?_, ?_⟩
            rotate_left
            · go_simp
              try (with_reducible rfl)
            try go_simp
            refine hK _ ?_
            clear hK K
            refine wpFk_get rfl (by rfl) (fun K hK => ?_)
            refine ⟨?_, fun w' hS' => ?_, ?_⟩
            rotate_left
            · go_simp
              try (with_reducible rfl)
            try go_simp
            refine hK _ ?_
            clear hK K
            refine wpFk_get rfl (by rfl) (fun K hK => ?_)
            refine ⟨?_, fun w' hS' => ?_, ?_⟩
            rotate_left
            · go_simp
              try (with_reducible rfl)
            try go_simp
            refine hK _ ?_
            clear hK K
            refine wpFk_get rfl (by rfl) (fun K hK => ?_)
            refine ⟨?_, fun w' hS' => ?_, ?_⟩
            rotate_left
            · go_simp
              try (with_reducible rfl)
            try go_simp
            refine hK _ ?_
            clear hK K
            refine wpFk_get rfl (by rfl) (fun K hK => ?_)
            refine ⟨_, fun w' hS' => get_load rfl rfl ((H9.out.next hS').x.read zX.out), ?_⟩
            try go_simp
            refine hK _ ?_
            clear hK K
            refine wpFk_get rfl (by rfl) (fun K hK => ?_)
            refine ⟨_, fun w' hS' => get_load rfl rfl ((H9.out.next hS').bk.rt.read zR.out), ?_⟩
            try go_simp
            refine hK _ ?_
            clear hK K
            refine wpFk_get rfl (by rfl) (fun K hK => ?_)
            refine ⟨?_, fun w' hS' => ?_, ?_⟩
            rotate_left
            · go_simp
              try (with_reducible rfl)
            try go_simp
            refine hK _ ?_
            clear hK K
            refine wpFk_get rfl (by rfl) (fun K hK => ?_)
            refine ⟨?_, fun w' hS' => ?_, ?_⟩
            rotate_left
            · go_simp
              try (with_reducible rfl)
            try go_simp
            refine hK _ ?_
            clear hK K
            refine wpFk_get rfl (by rfl) (fun K hK => ?_)
            refine ⟨?_, fun w' hS' => ?_, ?_⟩
            rotate_left
            · go_simp
              try (with_reducible rfl)
            try go_simp
            refine hK _ ?_
            clear hK K
            refine wpFk_get rfl (by rfl) (fun K hK => ?_)
            refine ⟨?_, fun w' hS' => ?_, ?_⟩
            rotate_left
            · go_simp
              try (with_reducible rfl)
            try go_simp
            refine hK _ ?_
            clear hK K
            refine wpFk_get rfl (by rfl) (fun K hK => ?_)
            refine ⟨?_, fun w' hS' => ?_, ?_⟩
            rotate_left
            · go_simp
              try (with_reducible rfl)
            try go_simp
            refine hK _ ?_
            clear hK K
            refine wpFk_call rfl (by rfl) (fun K hK => ?_)
            go_simp
            go_at_call 11
            refine (C5.out _ HS.out).mono ?_
            rintro e w2x ⟨rfl, hb⟩
            replace HS := Lib.hid (below_new HS.out hb)
            clear hb
            refine hK _ _ HS.out ?_
            clear hK K
            refine wpFk_get rfl (by rfl) (fun K hK => ?_)
            refine ⟨?_, fun w' hS' => ?_, ?_⟩
            rotate_left
            · go_simp
              try (with_reducible rfl)
            try go_simp
            refine hK _ ?_
            clear hK K
            refine wpFk_get rfl (by rfl) (fun K hK => ?_)
            refine ⟨?_, fun w' hS' => ?_, ?_⟩
            rotate_left
            · go_simp
              try (with_reducible rfl)
            try go_simp
            refine hK _ ?_
            clear hK K
            refine wpFk_get rfl (by rfl) (fun K hK => ?_)
            refine ⟨?_, fun w' hS' => ?_, ?_⟩
            rotate_left
            · go_simp
              try (with_reducible rfl)
            try go_simp
            refine hK _ ?_
            clear hK K
            refine wpFk_done ?_
            refine HQ.out _ _ ?_
            go_wp2
            go_roundw
            case rel => exact ⟨i + 1, by go_num, by omega, Lib.hid (H9.out.next HS.out).bk⟩
            case measure => simp [intOf]; omega
        · refine wpFk_call rfl (by rfl) (fun K hK => ?_)
          refine wp_buildOne (.tmp 56) rfl H rfl zH.out ?_
          have HRt := Lib.hid (Row.made w6.drew 30 H)
          replace HS := Lib.hid (HS.out.alloc HS.out.size (.cells H 30))
          try go_simp
          refine hK _ _ HS.out ?_
          clear hK K
          refine wpFk_call rfl (by rfl) (fun K hK => ?_)
          refine wp_appendC (.const (.slice none 0 0)) (.tmp 54) rfl w6.heap.size P rfl Ap q cp rfl hq.out hPh.out (H6.out.next HS.out).pf hqsm.out HS.out.size ?_
          intro v1 w7 ho hg
          have HO : Hid (w7.ownsRow w6.heap.size 30 32 v1 q (cellsL P)) := Lib.hid ho
          replace HRt := Lib.hid (HRt.out.grown hg (by simp))
          replace HS := Lib.hid (HS.out.grown hg HS.out.size (by intro k hk; simp at hk))
          clear ho hg
          try go_simp
          refine hK _ _ HS.out ?_
          clear hK K
          refine wpFk_call rfl (by rfl) (fun K hK => ?_)
          refine wp_appendH (.tmp 55) (.tmp 57) rfl w6.heap.size v1 q P [h] rfl HO.out _ 1 1 rfl rfl (fun l hl => by rw [List.mem_singleton.1 hl]; exact HH32.out) (HL.row (by rw [← hH.out]; exact HRt.out) HH32.out.1) hqsm1.out HS.out.size ?_
          intro v2 w8 ho hg
          obtain ⟨A2, c2, rfl⟩ := own_form ho
          have HP8 : Hid (HW w8 A2 (P ++ [h])) := Lib.hid (own_HL (by rw [hPl.out]; exact ho) (hashes_snoc hPh.out HH32.out))
          have HC2 : Hid (q + 1 ≤ c2 ∧ c2 ≤ maxLen) := Lib.hid ⟨(own_some ho).1, by have := (own_some ho).2.1; unfold maxLen; omega⟩
          replace HS := Lib.hid (HS.out.grown hg HS.out.size (fun k hk => (HO.out.lt k hk).1))
          clear ho hg
          try go_simp
          refine hK _ _ HS.out ?_
          clear hK K
          refine wpFk_call rfl (by rfl) (fun K hK => ?_)
          go_simp
          go_at_call 11
          refine (C3.out _ _ _ HS.out HP8.out HC2.out).mono ?_
          rintro e w2x ⟨rfl, hb⟩
          replace HS := Lib.hid (below_new HS.out hb)
          clear hb
          refine hK _ _ HS.out ?_
          clear hK K
          refine wpFk_get rfl (by rfl) (fun K hK => ?_)
          refine ⟨?_, fun w' hS' => ?_, ?_⟩
          rotate_left
          · go_simp
            try (with_reducible rfl)
          try go_simp
          refine hK _ ?_
          clear hK K
          refine wpFk_done ?_
          refine HQ.out _ _ ?_
          go_upto_region 13 with fail
          refine world_gen (fun W => BpH w w1.heap.size g9 H R X A Ap ls P W) (H6.out.next HS.out) (fun w9 H9 => ?_)
          have H9 := Lib.hid H9
          clear HS HQ H6
          by_cases hq0 : q = 0
          · have e2 : decide (0 < (q : Int)) = false := decide_eq_false (by omega)
            have e3 : ¬ (0 : Int) < (q : Int) := by omega
            have e31 : decide (0 < q) = false := decide_eq_false (by omega)
            have e32 : ¬ 0 < q := by omega
            clear hq0
            refine wp_region_fk (Below w9.heap.size w9) (.get 0 (.get 1 (.get 2 (.get 3 (.get 4 (.get 5 (.get 6 (.get 7 (.get 8 (.get 9 (.get 10 (.get 11 (.get 12 (.get 13 (.get 14 (.get 15 (.get 16 (.get 17 (.get 18 (.get 19 (.get 20 (.get 21 (.get 22 (.get 23 (.get 24 (.get 25 (.get 26 (.get 27 .done)))))))))))))))))))))))))))) (by kernel_rfl) rfl (by kernel_rfl) (by kernel_rfl) (by intro c a d v w h; cases d <;> exact h) (Below.refl w9.heap.size w9).drew (fun Q' hQ => ?_)
            have HS := Lib.hid (Below.refl w9.heap.size w9).drew
            have HQ := Lib.hid hQ
            clear hQ
            refine wpFk_get rfl (by rfl) (fun K hK => ?_)
            refine ⟨?_, fun w' hS' => ?_, ?_⟩
            rotate_left
            · go_simp
              try (with_reducible rfl)
            try go_simp
            refine hK _ ?_
            clear hK K
            refine wpFk_get rfl (by rfl) (fun K hK => ?_)
            refine ⟨?_, fun w' hS' => ?_, ?_⟩
            rotate_left
            · go_simp
              try (with_reducible rfl)
            try go_simp
            refine hK _ ?_
            clear hK K
            refine wpFk_get rfl (by rfl) (fun K hK => ?_)
            refine ⟨?_, fun w' hS' => ?_, ?_⟩
            rotate_left
            · go_simp
              try (with_reducible rfl)
            try go_simp
            refine hK _ ?_
            clear hK K
            refine wpFk_get rfl (by rfl) (fun K hK => ?_)
            refine ⟨?_, fun w' hS' => ?_, ?_⟩
            rotate_left
            · go_simp
              try (with_reducible rfl)
            try go_simp
            refine hK _ ?_
            clear hK K
            refine wpFk_skip rfl (by rfl) (fun K hK => ?_)
            try go_simp
            refine hK _ ?_
            clear hK K
            refine wpFk_skip rfl (by rfl) (fun K hK => ?_)
            try go_simp
            refine hK _ ?_
            clear hK K
            refine wpFk_skip rfl (by rfl) (fun K hK => ?_)
            try go_simp
            refine hK _ ?_
            clear hK K
            refine wpFk_skip rfl (by rfl) (fun K hK => ?_)
            try go_simp
            refine hK _ ?_
            clear hK K
            refine wpFk_skip rfl (by rfl) (fun K hK => ?_)
            try go_simp
            refine hK _ ?_
            clear hK K
            refine wpFk_skip rfl (by rfl) (fun K hK => ?_)
            try go_simp
            refine hK _ ?_
            clear hK K
            refine wpFk_skip rfl (by rfl) (fun K hK => ?_)
            try go_simp
            refine hK _ ?_
            clear hK K
            refine wpFk_skip rfl (by rfl) (fun K hK => ?_)
            try go_simp
            refine hK _ ?_
            clear hK K
            refine wpFk_skip rfl (by rfl) (fun K hK => ?_)
            try go_simp
            refine hK _ ?_
            clear hK K
            refine wpFk_skip rfl (by rfl) (fun K hK => ?_)
            try go_simp
            refine hK _ ?_
            clear hK K
            refine wpFk_skip rfl (by rfl) (fun K hK => ?_)
            try go_simp
            refine hK _ ?_
            clear hK K
            refine wpFk_skip rfl (by rfl) (fun K hK => ?_)
            try go_simp
            refine hK _ ?_
            clear hK K
            refine wpFk_skip rfl (by rfl) (fun K hK => ?_)
            try go_simp
            refine hK _ ?_
            clear hK K
            refine wpFk_skip rfl (by rfl) (fun K hK => ?_)
            try go_simp
            refine hK _ ?_
            clear hK K
            refine wpFk_skip rfl (by rfl) (fun K hK => ?_)
            try go_simp
            refine hK _ ?_
            clear hK K
            refine wpFk_skip rfl (by rfl) (fun K hK => ?_)
            try go_simp
            refine hK _ ?_
            clear hK K
            refine wpFk_skip rfl (by rfl) (fun K hK => ?_)
            try go_simp
            refine hK _ ?_
            clear hK K
            refine wpFk_skip rfl (by rfl) (fun K hK => ?_)
            try go_simp
            refine hK _ ?_
            clear hK K
            refine wpFk_skip rfl (by rfl) (fun K hK => ?_)
            try go_simp
            refine hK _ ?_
            clear hK K
            refine wpFk_skip rfl (by rfl) (fun K hK => ?_)
            try go_simp
            refine hK _ ?_
            clear hK K
            refine wpFk_skip rfl (by rfl) (fun K hK => ?_)
            try go_simp
            refine hK _ ?_
            clear hK K
            refine wpFk_skip rfl (by rfl) (fun K hK => ?_)
            try go_simp
            refine hK _ ?_
            clear hK K
            refine wpFk_skip rfl (by rfl) (fun K hK => ?_)
            try go_simp
            refine hK _ ?_
            clear hK K
            refine wpFk_get rfl (by rfl) (fun K hK => ?_)
            refine ⟨?_, fun w' hS' => ?_, ?_⟩
            rotate_left
            · go_simp
              try (with_reducible rfl)
            try go_simp
            refine hK _ ?_
            clear hK K
            refine wpFk_done ?_
            refine HQ.out _ _ ?_
            go_wp2
            go_roundw
            case rel => exact ⟨i + 1, by go_num, by omega, Lib.hid (H9.out.next HS.out).bk⟩
            case measure => simp [intOf]; omega
          · have e2 : decide (0 < (q : Int)) = true := decide_eq_true (by omega)
            have e3 : (0 : Int) < (q : Int) := by omega
            have e31 : decide (0 < q) = true := decide_eq_true (by omega)
            have e32 : 0 < q := by omega
            obtain ⟨m, hm⟩ : ∃ m : Nat, Hid (q = m + 1) := ⟨q - 1, Lib.hid (by omega)⟩
            have e4 : (q : Int) - 1 = (m : Int) := by have := hm.out; omega
            have e5 : ((q : Int) - 1).toNat = m := by have := hm.out; omega
            have e6 : ((cp : Int) - 1).toNat = cp - 1 := by omega
            have e7 : (1 : Int) ≤ (q : Int) := by omega
            have e8 : (1 : Int) ≤ (cp : Int) := by omega
            have e9 : (q : Int) ≤ (cp : Int) := by omega
            have e10 : (m : Int) ≤ (cp : Int) := by omega
            have e11 : (m : Int) ≤ (q : Int) := by have := hm.out; omega
            have e12 : IntKind.i64.wrap (m : Int) = (m : Int) := by rw [IntKind.wrap_i64]; omega
            obtain ⟨pd, rfl⟩ := HL.some H9.out.pf 0 (by rw [← hq.out]; omega)
            obtain ⟨AX, eAX⟩ : ∃ Z, (if cp = 1 then some pd else some ⟨pd.block, pd.off + 32, none⟩) = Z := ⟨_, rfl⟩
            have e13 : q - 1 = m := by have := hm.out; omega
            have ld : (P.drop 1).length = m := by rw [List.length_drop, ← hq.out, hm.out]; omega
            have lt : (P.take m).length = m := by rw [List.length_take, ← hq.out, hm.out]; omega
            have C4 : Hid (∀ W, Below w9.heap.size w9 W → Calls Tryd.prog 11 #[.int .i64 (i : Int), .int .i64 (n : Int), .agg X, .agg R, .slice AX m (cp - 1)] W fun e w' => e = .returned (.int .i64 80) ∧ Below W.heap.size W w') := Lib.hid fun W hW => by
              have h1 : HL W W.heap.size AX (P.drop 1) := by
                have h0 := HL.rest (H9.out.next hW).pf cp 1 (by rw [← hq.out]; exact hcp2)
                rw [show pd.add (1 * 32) = ⟨pd.block, pd.off + 32, none⟩ from rfl] at h0
                rw [← eAX]; exact h0
              have := CK.out W AX (cp - 1) i (P.drop 1) X 80 hlt h1 (H9.out.next hW).bk.tab (hashes_drop hPh.out 1) (by rw [ld]; have := hm.out; omega) (by have := HCP.out.2; omega) hX.out (KN.out _ (by rw [ld, hm.out]; omega))
              rwa [ld] at this
            have C5 : Hid (∀ W, Below w9.heap.size w9 W → Calls Tryd.prog 11 #[.int .i64 (i : Int), .int .i64 (n : Int), .agg X, .agg R, .slice (some pd) m cp] W fun e w' => e = .returned (.int .i64 80) ∧ Below W.heap.size W w') := Lib.hid fun W hW => by
              have := CK.out W (some pd) cp i (P.take m) X 80 hlt (HL.take (H9.out.next hW).pf m) (H9.out.next hW).bk.tab (hashes_take hPh.out m) (by rw [lt]; have := hm.out; omega) HCP.out.2 hX.out (KN.out _ (by rw [lt, hm.out]; omega))
              rwa [lt] at this
            clear ld lt
            refine wp_region_fk (Below w9.heap.size w9) (.get 0 (.get 1 (.get 2 (.get 3 (.get 4 (.get 5 (.get 6 (.get 7 (.get 8 (.get 9 (.get 10 (.call 11 (.get 12 (.get 13 (.get 14 (.get 15 (.get 16 (.get 17 (.get 18 (.get 19 (.get 20 (.get 21 (.get 22 (.get 23 (.call 24 (.get 25 (.get 26 (.get 27 .done)))))))))))))))))))))))))))) (by kernel_rfl) rfl (by kernel_rfl) (by kernel_rfl) (by intro c a d v w h; cases d <;> exact h) (Below.refl w9.heap.size w9).drew (fun Q' hQ => ?_)
            have HS := Lib.hid (Below.refl w9.heap.size w9).drew
            have HQ := Lib.hid hQ
            clear hQ
            refine wpFk_get rfl (by rfl) (fun K hK => ?_)
            refine ⟨?_, fun w' hS' => ?_, ?_⟩
            rotate_left
            · go_simp
              try (with_reducible rfl)
            try go_simp
            refine hK _ ?_
            clear hK K
            refine wpFk_get rfl (by rfl) (fun K hK => ?_)
            refine ⟨?_, fun w' hS' => ?_, ?_⟩
            rotate_left
            · go_simp
              try (with_reducible rfl)
            try go_simp
            refine hK _ ?_
            clear hK K
            refine wpFk_get rfl (by rfl) (fun K hK => ?_)
            refine ⟨?_, fun w' hS' => ?_, ?_⟩
            rotate_left
            · go_simp
              try (with_reducible rfl)
            try go_simp
            refine hK _ ?_
            clear hK K
            refine wpFk_get rfl (by rfl) (fun K hK => ?_)
            refine ⟨?_, fun w' hS' => ?_, ?_⟩
            rotate_left
            · go_simp
              try (with_reducible rfl)
            try go_simp
            refine hK _ ?_
            clear hK K
            refine wpFk_get rfl (by rfl) (fun K hK => ?_)
            refine ⟨?_, fun w' hS' => ?_, ?_⟩
            rotate_left
            · go_simp
              try (with_reducible rfl)
            try go_simp
            refine hK _ ?_
            clear hK K
            refine wpFk_get rfl (by rfl) (fun K hK => ?_)
            refine ⟨?_, fun w' hS' => ?_, ?_⟩
            rotate_left
            · go_simp
              try (with_reducible rfl)
            try go_simp
            refine hK _ ?_
            clear hK K
            refine wpFk_get rfl (by rfl) (fun K hK => ?_)
            refine ⟨?_, fun w' hS' => ?_, ?_⟩
            rotate_left
            · go_simp
              try (with_reducible rfl)
            try go_simp
            refine hK _ ?_
            clear hK K
            refine wpFk_get rfl (by rfl) (fun K hK => ?_)
            refine ⟨_, fun w' hS' => get_load rfl rfl ((H9.out.next hS').x.read zX.out), ?_⟩
            try go_simp
            refine hK _ ?_
            clear hK K
            refine wpFk_get rfl (by rfl) (fun K hK => ?_)
            refine ⟨_, fun w' hS' => get_load rfl rfl ((H9.out.next hS').bk.rt.read zR.out), ?_⟩
            try go_simp
            refine hK _ ?_
            clear hK K
            refine wpFk_get rfl (by rfl) (fun K hK => ?_)
            refine ⟨?_, fun w' hS' => ?_, ?_⟩
            rotate_left
            · go_simp
              try (with_reducible rfl)
            try go_simp
            refine hK _ ?_
            clear hK K
            refine wpFk_get rfl (by rfl) (fun K hK => ?_)
            refine ⟨?_, fun w' hS' => ?_, ?_⟩
            rotate_left
            · go_simp
              try (with_reducible rfl)
            try go_simp
            refine hK _ ?_
            clear hK K
            refine wpFk_call rfl (by rfl) (fun K hK => ?_)
            go_simp
            go_at_call 11
            refine (C4.out _ HS.out).mono ?_
            rintro e w2x ⟨rfl, hb⟩
            replace HS := Lib.hid (below_new HS.out hb)
            clear hb
            refine hK _ _ HS.out ?_
            clear hK K
            refine wpFk_get rfl (by rfl) (fun K hK => ?_)
            refine ⟨?_, fun w' hS' => ?_, ?_⟩
            rotate_left
            · go_simp
              try (with_reducible rfl)
            try go_simp
            refine hK _ ?_
            clear hK K
            refine wpFk_get rfl (by rfl) (fun K hK => ?_)
            refine ⟨?_, fun w' hS' => ?_, ?_⟩
            rotate_left
            · go_simp
              try (with_reducible rfl)
            try go_simp
            refine hK _ ?_
            clear hK K
            refine wpFk_get rfl (by rfl) (fun K hK => ?_)
            refine ⟨?_, fun w' hS' => ?_, ?_⟩
            rotate_left
            · go_simp
              try (with_reducible rfl)
            try go_simp
            refine hK _ ?_
            clear hK K
            refine wpFk_get rfl (by rfl) (fun K hK => ?_)
            refine ⟨?_, fun w' hS' => ?_, ?_⟩
            rotate_left
            · go_simp
              try (with_reducible rfl)
            try go_simp
            refine hK _ ?_
            clear hK K
            refine wpFk_get rfl (by rfl) (fun K hK => ?_)
            refine ⟨?_, fun w' hS' => ?_, ?_⟩
            rotate_left
            · go_simp
              try (with_reducible rfl)
            try go_simp
            refine hK _ ?_
            clear hK K
            refine wpFk_get rfl (by rfl) (fun K hK => ?_)
            refine ⟨_, fun w' hS' => get_load rfl rfl ((H9.out.next hS').x.read zX.out), ?_⟩
            try go_simp
            refine hK _ ?_
            clear hK K
            refine wpFk_get rfl (by rfl) (fun K hK => ?_)
            refine ⟨_, fun w' hS' => get_load rfl rfl ((H9.out.next hS').bk.rt.read zR.out), ?_⟩
            try go_simp
            refine hK _ ?_
            clear hK K
            refine wpFk_get rfl (by rfl) (fun K hK => ?_)
            refine ⟨?_, fun w' hS' => ?_, ?_⟩
            rotate_left
            · go_simp
              try (with_reducible rfl)
            try go_simp
            refine hK _ ?_
            clear hK K
            refine wpFk_get rfl (by rfl) (fun K hK => ?_)
            refine ⟨?_, fun w' hS' => ?_, ?_⟩
            rotate_left
            · go_simp
              try (with_reducible rfl)
            try go_simp
            refine hK _ ?_
            clear hK K
            refine wpFk_get rfl (by rfl) (fun K hK => ?_)
            refine ⟨?_, fun w' hS' => ?_, ?_⟩
            rotate_left
            · go_simp
              try (with_reducible rfl)
            try go_simp
            refine hK _ ?_
            clear hK K
            refine wpFk_get rfl (by rfl) (fun K hK => ?_)
            refine ⟨?_, fun w' hS' => ?_, ?_⟩
            rotate_left
            · go_simp
              try (with_reducible rfl)
            try go_simp
            refine hK _ ?_
            clear hK K
            refine wpFk_get rfl (by rfl) (fun K hK => ?_)
            refine ⟨?_, fun w' hS' => ?_, ?_⟩
            rotate_left
            · go_simp
              try (with_reducible rfl)
            try go_simp
            refine hK _ ?_
            clear hK K
            refine wpFk_call rfl (by rfl) (fun K hK => ?_)
            go_simp
            go_at_call 11
            refine (C5.out _ HS.out).mono ?_
            rintro e w2x ⟨rfl, hb⟩
            replace HS := Lib.hid (below_new HS.out hb)
            clear hb
            refine hK _ _ HS.out ?_
            clear hK K
            refine wpFk_get rfl (by rfl) (fun K hK => ?_)
            refine ⟨?_, fun w' hS' => ?_, ?_⟩
            rotate_left
            · go_simp
              try (with_reducible rfl)
            try go_simp
            refine hK _ ?_
            clear hK K
            refine wpFk_get rfl (by rfl) (fun K hK => ?_)
            refine ⟨?_, fun w' hS' => ?_, ?_⟩
            rotate_left
            · go_simp
              try (with_reducible rfl)
            try go_simp
            refine hK _ ?_
            clear hK K
            refine wpFk_get rfl (by rfl) (fun K hK => ?_)
            refine ⟨?_, fun w' hS' => ?_, ?_⟩
            rotate_left
            · go_simp
              try (with_reducible rfl)
            try go_simp
            refine hK _ ?_
            clear hK K
            refine wpFk_done ?_
            refine HQ.out _ _ ?_
            go_wp2
            go_roundw
            case rel => exact ⟨i + 1, by go_num, by omega, Lib.hid (H9.out.next HS.out).bk⟩
            case measure => simp [intOf]; omega
      · go_wp2_with (go_at_call 7; (with_reducible refine (proved_any _ HB.out.tab).mono ?_); rintro e w3 ⟨rfl, hb⟩; have HB1 := Lib.hid (below_new HB.out.below hb); clear hb)
        go_ret
        exact ⟨rfl, HB1.out⟩
end Go.Proofs.YtkjgkeigfebcmaaDoor
