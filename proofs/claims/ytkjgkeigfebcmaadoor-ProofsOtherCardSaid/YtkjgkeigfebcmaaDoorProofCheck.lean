/-
  The walk of Check (layer 7): whether two sizes, two roots and a proof check. Conditions: the two tables as they were laid, a list of hashes in memory. What it makes is new memory; nothing that was there changes.
-/
import Derived.Test.YtkjgkeigfebcmaaDoorProofSays
import Derived.Test.YtkjgkeigfebcmaaDoorTreeTop
namespace Go.Proofs.YtkjgkeigfebcmaaDoor
open Go.RowKit Go.Great
set_option linter.unusedVariables false
set_option maxRecDepth 100000

theorem valS_both {older newer : List Int} {m n : Nat} {p : List (List Int)} : valS older m n true p (fun a b => decide (a = older) && decide (b = newer)) = decide (saysR older m n true p.reverse = some (older, newer)) := by
  unfold valS
  cases saysR older m n true p.reverse with
  | none => rfl
  | some y =>
    obtain ⟨a, b⟩ := y
    by_cases h1 : a = older
    · by_cases h2 : b = newer
      · simp [h1, h2]
      · simp [h2]
    · simp [h1]
/-- Whether a proof holds, as the program asks it. -/
def holdsB (m n : Nat) (older newer : List Int) (p : List (List Int)) : Bool := decide (holdsP m n older newer p)
theorem holdsB_zero {n : Nat} {older newer : List Int} {p : List (List Int)} : holdsB 0 n older newer p = (decide (older = rootL []) && (decide (p.length = 0) && (decide (0 < n) || decide (newer = older)))) := by
  unfold holdsB
  rw [← Bool.decide_or, ← Bool.decide_and, ← Bool.decide_and]
  exact decide_eq_decide.2 holdsP_zero
theorem holdsB_some {m n : Nat} {older newer : List Int} {p : List (List Int)} (h : 1 ≤ m) : holdsB m n older newer p = valS older m n true p (fun a b => decide (a = older) && decide (b = newer)) := by
  unfold holdsB
  rw [valS_both]
  exact decide_eq_decide.2 (holdsP_some h)
/-- Two hashes that are compared. -/
theorem eqAt_two (x y : List Int) (X Y : Array Value) (hX : Hid (X = nums .u8 x)) (hY : Hid (Y = nums .u8 y)) (hx : x.length = 32 ∧ bytes x) (hy : y.length = 32 ∧ bytes y) (b : Bool) (hb : b = decide (x = y)) : Hid (∀ W, (eqAt (.agg X) (.agg Y)).run Tryd.prog W = .ok (.bool b) W) := Lib.hid fun W => by
  rw [hX.out, hY.out, hb]; exact eqAt_hash x y hx.1 hy.1 hx.2 hy.2 W
/-- What Check and holds hold. -/
structure ChkH (w wr : World) (C D : Array Value) (A : Option Addr) (ps : List (List Int)) : Prop where
  a : Row wr w.heap.size 30 C
  b : Row wr (w.heap.size + 1) 30 D
  ps : HW wr A ps
  tab : Tab wr
  below : Below w.heap.size w wr
theorem ChkH.next {w wr w1 : World} {C D : Array Value} {A : Option Addr} {ps : List (List Int)} (h : ChkH w wr C D A ps) (hb : Below wr.heap.size wr w1) : ChkH w w1 C D A ps := ⟨h.a.next hb, h.b.next hb, h.ps.next hb, h.tab.next hb, below_new h.below hb⟩
theorem ChkH.start {w : World} {C D : Array Value} {A : Option Addr} {ps : List (List Int)} (hA : HL w w.heap.size A ps) (hT : Tab w) : ChkH w ((w.alloc (.cells C 30)).alloc (.cells D 30)) C D A ps :=
  have h := TwoH.start w C D
  ⟨h.a, h.b, HL.from hA h.below, hT.next h.below, h.below⟩
attribute [local go_sem ↓ high] read_at write_at eq_at neq_at
set_option maxHeartbeats 8000000 in
theorem holds_any (older newer : List Int) (ho : older.length = 32 ∧ bytes older) (hw : newer.length = 32 ∧ bytes newer) (m n : Nat) (hmn : m ≤ n) (hn : n ≤ 4096) (ps : List (List Int)) (hps : hashes ps) (A : Option Addr) (c : Nat) (w : World) (hA : HL w w.heap.size A ps) (hT : Tab w) (hc : ps.length ≤ c) (hcm : c ≤ 9223372036854775807) :
    Calls Tryd.prog 19 #[.int .i64 (m : Int), .int .i64 (n : Int), .agg (nums .u8 older), .agg (nums .u8 newer), .slice A ps.length c] w fun e w' => e = .returned (.bool (holdsB m n older newer ps)) ∧ Below w.heap.size w w' := by
  obtain ⟨q, hq⟩ : ∃ q, Hid (q = ps.length) := ⟨_, Lib.hid rfl⟩
  obtain ⟨C, hC⟩ : ∃ C, Hid (C = nums .u8 older) := ⟨_, Lib.hid rfl⟩
  obtain ⟨D, hD⟩ : ∃ D, Hid (D = nums .u8 newer) := ⟨_, Lib.hid rfl⟩
  have zC : Hid (C.size = 32) := Lib.hid (by rw [hC.out, nums_size]; exact ho.1)
  have zD : Hid (D.size = 32) := Lib.hid (by rw [hD.out, nums_size]; exact hw.1)
  obtain ⟨R, hR⟩ : ∃ R, Hid (R = holdsB m n older newer ps) := ⟨_, Lib.hid rfl⟩
  have H0 := Lib.hid (ChkH.start (C := C) (D := D) hA hT)
  have HO := Lib.hid ho
  have HW := Lib.hid hw
  have HP := Lib.hid hps
  have HC := Lib.hid hc
  rw [← hq.out, ← hC.out, ← hD.out, ← hR.out]
  by_cases hm0 : m = 0
  · subst hm0
    obtain ⟨E, hE⟩ : ∃ E, Hid (E = nums .u8 (rootL [])) := ⟨_, Lib.hid rfl⟩
    have hE32 := rootL_is [] (fun l h => nomatch h)
    obtain ⟨b1, hb1⟩ : ∃ b : Bool, b = decide (older = rootL []) := ⟨_, rfl⟩
    obtain ⟨b4, hb4⟩ : ∃ b : Bool, b = decide (newer = older) := ⟨_, rfl⟩
    have T1 := eqAt_two older (rootL []) C E hC hE ho hE32 b1 hb1
    have T4 := eqAt_two newer older D C hD hC hw ho b4 hb4
    have HR : Hid (R = (b1 && (decide (q = 0) && (decide (0 < n) || b4)))) := Lib.hid (by rw [hR.out, holdsB_zero, hb1, hb4, hq.out])
    have X1 : Hid (∀ W, Below w.heap.size w W → Tab W → Calls Tryd.prog 14 #[.slice none 0 0] W fun e w' => e = .returned (.agg E) ∧ Below W.heap.size W w') := Lib.hid fun W _ hW => by
      rw [hE.out]; exact root_any [] (fun l h => nomatch h) none 0 W (HL.nil _ _ _) hW (by decide)
    clear hA hT hps ho hw hb1 hb4 hc
    cases b1 with
    | false =>
      have HR2 : Hid (R = false) := Lib.hid (by rw [HR.out]; rfl)
      go_enter Tryd.func19, Tryd.ntmps19
      go_upto_region 1 with fail
      refine world_gen (fun X => ChkH w X C D A ps) H0.out (fun X HX => ?_)
      have HX := Lib.hid HX
      go_upto_region 2 with fail
      refine wp_region_fk (Below X.heap.size X) (.get 0 (.call 1 (.get 2 (.get 3 (.get 4 (.get 5 (.get 6 (.get 7 (.get 8 (.get 9 (.get 10 (.get 11 (.get 12 (.get 13 (.get 14 (.get 15 (.get 16 (.get 17 .done)))))))))))))))))) (by kernel_rfl) rfl (by kernel_rfl) (by kernel_rfl) (by intro c a d v w h; cases d <;> exact h) (Below.refl X.heap.size X).drew (fun Q' hQ => ?_)
      have HS := Lib.hid (Below.refl X.heap.size X).drew
      have HQ := Lib.hid hQ
      clear hQ
      refine wpFk_get rfl (by rfl) (fun K hK => ?_)
      refine ⟨_, fun w' hS' => get_load rfl rfl ((HX.out.next hS').a.read zC.out), ?_⟩
      try go_simp
      refine hK _ ?_
      clear hK K
      refine wpFk_call rfl (by rfl) (fun K hK => ?_)
      go_simp
      go_at_call 14
      refine (X1.out _ (below_new HX.out.below HS.out) (HX.out.next HS.out).tab).mono ?_
      rintro e w2x ⟨rfl, hb⟩
      replace HS := Lib.hid (below_new HS.out hb)
      clear hb
      refine hK _ _ HS.out ?_
      clear hK K
      refine wpFk_get rfl (by rfl) (fun K hK => ?_)
      refine ⟨_, fun w' hS' => get_eqH rfl rfl rfl (T1.out _), ?_⟩
      try go_simp
      refine hK _ ?_
      clear hK K
      refine wpFk_get rfl (by rfl) (fun K hK => ?_)
      refine ⟨?_, fun w' hS' => ?_, ?_⟩
      rotate_left
      · go_simp
        try (with_reducible rfl)
      try go_simp
      refine hK _ ?_
      clear hK K
      refine wpFk_skip rfl (by rfl) (fun K hK => ?_)
      try go_simp
      refine hK _ ?_
      clear hK K
      refine wpFk_skip rfl (by rfl) (fun K hK => ?_)
      try go_simp
      refine hK _ ?_
      clear hK K
      refine wpFk_skip rfl (by rfl) (fun K hK => ?_)
      try go_simp
      refine hK _ ?_
      clear hK K
      refine wpFk_get rfl (by rfl) (fun K hK => ?_)
      refine ⟨?_, fun w' hS' => ?_, ?_⟩
      rotate_left
      · go_simp
        try (with_reducible rfl)
      try go_simp
      refine hK _ ?_
      clear hK K
      refine wpFk_get rfl (by rfl) (fun K hK => ?_)
      refine ⟨?_, fun w' hS' => ?_, ?_⟩
      rotate_left
      · go_simp
        try (with_reducible rfl)
      try go_simp
      refine hK _ ?_
      clear hK K
      refine wpFk_skip rfl (by rfl) (fun K hK => ?_)
      try go_simp
      refine hK _ ?_
      clear hK K
      refine wpFk_skip rfl (by rfl) (fun K hK => ?_)
      try go_simp
      refine hK _ ?_
      clear hK K
      refine wpFk_skip rfl (by rfl) (fun K hK => ?_)
      try go_simp
      refine hK _ ?_
      clear hK K
      refine wpFk_skip rfl (by rfl) (fun K hK => ?_)
      try go_simp
      refine hK _ ?_
      clear hK K
      refine wpFk_skip rfl (by rfl) (fun K hK => ?_)
      try go_simp
      refine hK _ ?_
      clear hK K
      refine wpFk_skip rfl (by rfl) (fun K hK => ?_)
      try go_simp
      refine hK _ ?_
      clear hK K
      refine wpFk_skip rfl (by rfl) (fun K hK => ?_)
      try go_simp
      refine hK _ ?_
      clear hK K
      refine wpFk_get rfl (by rfl) (fun K hK => ?_)
      refine ⟨?_, fun w' hS' => ?_, ?_⟩
      rotate_left
      · go_simp
        try (with_reducible rfl)
      try go_simp
      refine hK _ ?_
      clear hK K
      refine wpFk_get rfl (by rfl) (fun K hK => ?_)
      refine ⟨?_, fun w' hS' => ?_, ?_⟩
      rotate_left
      · go_simp
        try (with_reducible rfl)
      try go_simp
      refine hK _ ?_
      clear hK K
      refine wpFk_done ?_
      refine HQ.out _ _ ?_
      go_wp2
      go_ret
      exact ⟨by rw [HR2.out]; rfl, below_new HX.out.below HS.out⟩
    | true =>
      by_cases hq0 : q = 0
      · have dq : ((q : Int) == 0) = true := by rw [hq0]; rfl
        by_cases hn0 : n = 0
        · have HR2 : Hid (R = b4) := Lib.hid (by rw [HR.out, hq0, hn0]; simp)
          have dn : decide ((0 : Int) < (n : Int)) = false := decide_eq_false (by omega)
          have dn2 : ¬ (0 : Int) < (n : Int) := by omega
          have dn3 : decide (0 < n) = false := decide_eq_false (by omega)
          have dn4 : ¬ 0 < n := by omega
          clear hq0 hn0
          go_enter Tryd.func19, Tryd.ntmps19
          go_upto_region 1 with fail
          refine world_gen (fun X => ChkH w X C D A ps) H0.out (fun X HX => ?_)
          have HX := Lib.hid HX
          go_upto_region 2 with fail
          refine wp_region_fk (Below X.heap.size X) (.get 0 (.call 1 (.get 2 (.get 3 (.get 4 (.get 5 (.get 6 (.get 7 (.get 8 (.get 9 (.get 10 (.get 11 (.get 12 (.get 13 (.get 14 (.get 15 (.get 16 (.get 17 .done)))))))))))))))))) (by kernel_rfl) rfl (by kernel_rfl) (by kernel_rfl) (by intro c a d v w h; cases d <;> exact h) (Below.refl X.heap.size X).drew (fun Q' hQ => ?_)
          have HS := Lib.hid (Below.refl X.heap.size X).drew
          have HQ := Lib.hid hQ
          clear hQ
          refine wpFk_get rfl (by rfl) (fun K hK => ?_)
          refine ⟨_, fun w' hS' => get_load rfl rfl ((HX.out.next hS').a.read zC.out), ?_⟩
          try go_simp
          refine hK _ ?_
          clear hK K
          refine wpFk_call rfl (by rfl) (fun K hK => ?_)
          go_simp
          go_at_call 14
          refine (X1.out _ (below_new HX.out.below HS.out) (HX.out.next HS.out).tab).mono ?_
          rintro e w2x ⟨rfl, hb⟩
          replace HS := Lib.hid (below_new HS.out hb)
          clear hb
          refine hK _ _ HS.out ?_
          clear hK K
          refine wpFk_get rfl (by rfl) (fun K hK => ?_)
          refine ⟨_, fun w' hS' => get_eqH rfl rfl rfl (T1.out _), ?_⟩
          try go_simp
          refine hK _ ?_
          clear hK K
          refine wpFk_get rfl (by rfl) (fun K hK => ?_)
          refine ⟨?_, fun w' hS' => ?_, ?_⟩
          rotate_left
          · go_simp
            try (with_reducible rfl)
          try go_simp
          refine hK _ ?_
          clear hK K
          refine wpFk_get rfl (by rfl) (fun K hK => ?_)
          refine ⟨?_, fun w' hS' => ?_, ?_⟩
          rotate_left
          · go_simp
            try (with_reducible rfl)
          try go_simp
          refine hK _ ?_
          clear hK K
          refine wpFk_get rfl (by rfl) (fun K hK => ?_)
          refine ⟨?_, fun w' hS' => ?_, ?_⟩
          rotate_left
          · go_simp
            try (with_reducible rfl)
          try go_simp
          refine hK _ ?_
          clear hK K
          refine wpFk_get rfl (by rfl) (fun K hK => ?_)
          refine ⟨?_, fun w' hS' => ?_, ?_⟩
          rotate_left
          · go_simp
            try (with_reducible rfl)
          try go_simp
          refine hK _ ?_
          clear hK K
          refine wpFk_get rfl (by rfl) (fun K hK => ?_)
          refine ⟨?_, fun w' hS' => ?_, ?_⟩
          rotate_left
          · go_simp
            try (with_reducible rfl)
          try go_simp
          refine hK _ ?_
          clear hK K
          refine wpFk_get rfl (by rfl) (fun K hK => ?_)
          refine ⟨?_, fun w' hS' => ?_, ?_⟩
          rotate_left
          · go_simp
            try (with_reducible rfl)
          try go_simp
          refine hK _ ?_
          clear hK K
          refine wpFk_get rfl (by rfl) (fun K hK => ?_)
          refine ⟨?_, fun w' hS' => ?_, ?_⟩
          rotate_left
          · go_simp
            try (with_reducible rfl)
          try go_simp
          refine hK _ ?_
          clear hK K
          refine wpFk_get rfl (by rfl) (fun K hK => ?_)
          refine ⟨?_, fun w' hS' => ?_, ?_⟩
          rotate_left
          · go_simp
            try (with_reducible rfl)
          try go_simp
          refine hK _ ?_
          clear hK K
          refine wpFk_get rfl (by rfl) (fun K hK => ?_)
          refine ⟨?_, fun w' hS' => ?_, ?_⟩
          rotate_left
          · go_simp
            try (with_reducible rfl)
          try go_simp
          refine hK _ ?_
          clear hK K
          refine wpFk_get rfl (by rfl) (fun K hK => ?_)
          refine ⟨_, fun w' hS' => get_load rfl rfl ((HX.out.next hS').b.read zD.out), ?_⟩
          try go_simp
          refine hK _ ?_
          clear hK K
          refine wpFk_get rfl (by rfl) (fun K hK => ?_)
          refine ⟨_, fun w' hS' => get_load rfl rfl ((HX.out.next hS').a.read zC.out), ?_⟩
          try go_simp
          refine hK _ ?_
          clear hK K
          refine wpFk_get rfl (by rfl) (fun K hK => ?_)
          refine ⟨_, fun w' hS' => get_eqH rfl rfl rfl (T4.out _), ?_⟩
          try go_simp
          refine hK _ ?_
          clear hK K
          refine wpFk_get rfl (by rfl) (fun K hK => ?_)
          refine ⟨?_, fun w' hS' => ?_, ?_⟩
          rotate_left
          · go_simp
            try (with_reducible rfl)
          try go_simp
          refine hK _ ?_
          clear hK K
          refine wpFk_get rfl (by rfl) (fun K hK => ?_)
          refine ⟨?_, fun w' hS' => ?_, ?_⟩
          rotate_left
          · go_simp
            try (with_reducible rfl)
          try go_simp
          refine hK _ ?_
          clear hK K
          refine wpFk_get rfl (by rfl) (fun K hK => ?_)
          refine ⟨?_, fun w' hS' => ?_, ?_⟩
          rotate_left
          · go_simp
            try (with_reducible rfl)
          try go_simp
          refine hK _ ?_
          clear hK K
          refine wpFk_done ?_
          refine HQ.out _ _ ?_
          go_wp2
          go_ret
          exact ⟨by rw [HR2.out]; rfl, below_new HX.out.below HS.out⟩
        · have HR2 : Hid (R = true) := Lib.hid (by rw [HR.out, hq0, decide_eq_true (show 0 < n by omega)]; rfl)
          have dn : decide ((0 : Int) < (n : Int)) = true := decide_eq_true (by omega)
          have dn2 : (0 : Int) < (n : Int) := by omega
          have dn3 : decide (0 < n) = true := decide_eq_true (by omega)
          have dn4 : 0 < n := by omega
          clear hq0 hn0
          go_enter Tryd.func19, Tryd.ntmps19
          go_upto_region 1 with fail
          refine world_gen (fun X => ChkH w X C D A ps) H0.out (fun X HX => ?_)
          have HX := Lib.hid HX
          go_upto_region 2 with fail
          refine wp_region_fk (Below X.heap.size X) (.get 0 (.call 1 (.get 2 (.get 3 (.get 4 (.get 5 (.get 6 (.get 7 (.get 8 (.get 9 (.get 10 (.get 11 (.get 12 (.get 13 (.get 14 (.get 15 (.get 16 (.get 17 .done)))))))))))))))))) (by kernel_rfl) rfl (by kernel_rfl) (by kernel_rfl) (by intro c a d v w h; cases d <;> exact h) (Below.refl X.heap.size X).drew (fun Q' hQ => ?_)
          have HS := Lib.hid (Below.refl X.heap.size X).drew
          have HQ := Lib.hid hQ
          clear hQ
          refine wpFk_get rfl (by rfl) (fun K hK => ?_)
          refine ⟨_, fun w' hS' => get_load rfl rfl ((HX.out.next hS').a.read zC.out), ?_⟩
          try go_simp
          refine hK _ ?_
          clear hK K
          refine wpFk_call rfl (by rfl) (fun K hK => ?_)
          go_simp
          go_at_call 14
          refine (X1.out _ (below_new HX.out.below HS.out) (HX.out.next HS.out).tab).mono ?_
          rintro e w2x ⟨rfl, hb⟩
          replace HS := Lib.hid (below_new HS.out hb)
          clear hb
          refine hK _ _ HS.out ?_
          clear hK K
          refine wpFk_get rfl (by rfl) (fun K hK => ?_)
          refine ⟨_, fun w' hS' => get_eqH rfl rfl rfl (T1.out _), ?_⟩
          try go_simp
          refine hK _ ?_
          clear hK K
          refine wpFk_get rfl (by rfl) (fun K hK => ?_)
          refine ⟨?_, fun w' hS' => ?_, ?_⟩
          rotate_left
          · go_simp
            try (with_reducible rfl)
          try go_simp
          refine hK _ ?_
          clear hK K
          refine wpFk_get rfl (by rfl) (fun K hK => ?_)
          refine ⟨?_, fun w' hS' => ?_, ?_⟩
          rotate_left
          · go_simp
            try (with_reducible rfl)
          try go_simp
          refine hK _ ?_
          clear hK K
          refine wpFk_get rfl (by rfl) (fun K hK => ?_)
          refine ⟨?_, fun w' hS' => ?_, ?_⟩
          rotate_left
          · go_simp
            try (with_reducible rfl)
          try go_simp
          refine hK _ ?_
          clear hK K
          refine wpFk_get rfl (by rfl) (fun K hK => ?_)
          refine ⟨?_, fun w' hS' => ?_, ?_⟩
          rotate_left
          · go_simp
            try (with_reducible rfl)
          try go_simp
          refine hK _ ?_
          clear hK K
          refine wpFk_get rfl (by rfl) (fun K hK => ?_)
          refine ⟨?_, fun w' hS' => ?_, ?_⟩
          rotate_left
          · go_simp
            try (with_reducible rfl)
          try go_simp
          refine hK _ ?_
          clear hK K
          refine wpFk_get rfl (by rfl) (fun K hK => ?_)
          refine ⟨?_, fun w' hS' => ?_, ?_⟩
          rotate_left
          · go_simp
            try (with_reducible rfl)
          try go_simp
          refine hK _ ?_
          clear hK K
          refine wpFk_get rfl (by rfl) (fun K hK => ?_)
          refine ⟨?_, fun w' hS' => ?_, ?_⟩
          rotate_left
          · go_simp
            try (with_reducible rfl)
          try go_simp
          refine hK _ ?_
          clear hK K
          refine wpFk_get rfl (by rfl) (fun K hK => ?_)
          refine ⟨?_, fun w' hS' => ?_, ?_⟩
          rotate_left
          · go_simp
            try (with_reducible rfl)
          try go_simp
          refine hK _ ?_
          clear hK K
          refine wpFk_get rfl (by rfl) (fun K hK => ?_)
          refine ⟨?_, fun w' hS' => ?_, ?_⟩
          rotate_left
          · go_simp
            try (with_reducible rfl)
          try go_simp
          refine hK _ ?_
          clear hK K
          refine wpFk_skip rfl (by rfl) (fun K hK => ?_)
          try go_simp
          refine hK _ ?_
          clear hK K
          refine wpFk_skip rfl (by rfl) (fun K hK => ?_)
          try go_simp
          refine hK _ ?_
          clear hK K
          refine wpFk_skip rfl (by rfl) (fun K hK => ?_)
          try go_simp
          refine hK _ ?_
          clear hK K
          refine wpFk_get rfl (by rfl) (fun K hK => ?_)
          refine ⟨?_, fun w' hS' => ?_, ?_⟩
          rotate_left
          · go_simp
            try (with_reducible rfl)
          try go_simp
          refine hK _ ?_
          clear hK K
          refine wpFk_get rfl (by rfl) (fun K hK => ?_)
          refine ⟨?_, fun w' hS' => ?_, ?_⟩
          rotate_left
          · go_simp
            try (with_reducible rfl)
          try go_simp
          refine hK _ ?_
          clear hK K
          refine wpFk_get rfl (by rfl) (fun K hK => ?_)
          refine ⟨?_, fun w' hS' => ?_, ?_⟩
          rotate_left
          · go_simp
            try (with_reducible rfl)
          try go_simp
          refine hK _ ?_
          clear hK K
          refine wpFk_done ?_
          refine HQ.out _ _ ?_
          go_wp2
          go_ret
          exact ⟨by rw [HR2.out]; rfl, below_new HX.out.below HS.out⟩
      · have HR2 : Hid (R = false) := Lib.hid (by rw [HR.out, decide_eq_false hq0]; rfl)
        have dq : ((q : Int) == 0) = false := by simp; omega
        clear hq0
        go_enter Tryd.func19, Tryd.ntmps19
        go_upto_region 1 with fail
        refine world_gen (fun X => ChkH w X C D A ps) H0.out (fun X HX => ?_)
        have HX := Lib.hid HX
        go_upto_region 2 with fail
        refine wp_region_fk (Below X.heap.size X) (.get 0 (.call 1 (.get 2 (.get 3 (.get 4 (.get 5 (.get 6 (.get 7 (.get 8 (.get 9 (.get 10 (.get 11 (.get 12 (.get 13 (.get 14 (.get 15 (.get 16 (.get 17 .done)))))))))))))))))) (by kernel_rfl) rfl (by kernel_rfl) (by kernel_rfl) (by intro c a d v w h; cases d <;> exact h) (Below.refl X.heap.size X).drew (fun Q' hQ => ?_)
        have HS := Lib.hid (Below.refl X.heap.size X).drew
        have HQ := Lib.hid hQ
        clear hQ
        refine wpFk_get rfl (by rfl) (fun K hK => ?_)
        refine ⟨_, fun w' hS' => get_load rfl rfl ((HX.out.next hS').a.read zC.out), ?_⟩
        try go_simp
        refine hK _ ?_
        clear hK K
        refine wpFk_call rfl (by rfl) (fun K hK => ?_)
        go_simp
        go_at_call 14
        refine (X1.out _ (below_new HX.out.below HS.out) (HX.out.next HS.out).tab).mono ?_
        rintro e w2x ⟨rfl, hb⟩
        replace HS := Lib.hid (below_new HS.out hb)
        clear hb
        refine hK _ _ HS.out ?_
        clear hK K
        refine wpFk_get rfl (by rfl) (fun K hK => ?_)
        refine ⟨_, fun w' hS' => get_eqH rfl rfl rfl (T1.out _), ?_⟩
        try go_simp
        refine hK _ ?_
        clear hK K
        refine wpFk_get rfl (by rfl) (fun K hK => ?_)
        refine ⟨?_, fun w' hS' => ?_, ?_⟩
        rotate_left
        · go_simp
          try (with_reducible rfl)
        try go_simp
        refine hK _ ?_
        clear hK K
        refine wpFk_get rfl (by rfl) (fun K hK => ?_)
        refine ⟨?_, fun w' hS' => ?_, ?_⟩
        rotate_left
        · go_simp
          try (with_reducible rfl)
        try go_simp
        refine hK _ ?_
        clear hK K
        refine wpFk_get rfl (by rfl) (fun K hK => ?_)
        refine ⟨?_, fun w' hS' => ?_, ?_⟩
        rotate_left
        · go_simp
          try (with_reducible rfl)
        try go_simp
        refine hK _ ?_
        clear hK K
        refine wpFk_get rfl (by rfl) (fun K hK => ?_)
        refine ⟨?_, fun w' hS' => ?_, ?_⟩
        rotate_left
        · go_simp
          try (with_reducible rfl)
        try go_simp
        refine hK _ ?_
        clear hK K
        refine wpFk_get rfl (by rfl) (fun K hK => ?_)
        refine ⟨?_, fun w' hS' => ?_, ?_⟩
        rotate_left
        · go_simp
          try (with_reducible rfl)
        try go_simp
        refine hK _ ?_
        clear hK K
        refine wpFk_get rfl (by rfl) (fun K hK => ?_)
        refine ⟨?_, fun w' hS' => ?_, ?_⟩
        rotate_left
        · go_simp
          try (with_reducible rfl)
        try go_simp
        refine hK _ ?_
        clear hK K
        refine wpFk_skip rfl (by rfl) (fun K hK => ?_)
        try go_simp
        refine hK _ ?_
        clear hK K
        refine wpFk_skip rfl (by rfl) (fun K hK => ?_)
        try go_simp
        refine hK _ ?_
        clear hK K
        refine wpFk_skip rfl (by rfl) (fun K hK => ?_)
        try go_simp
        refine hK _ ?_
        clear hK K
        refine wpFk_skip rfl (by rfl) (fun K hK => ?_)
        try go_simp
        refine hK _ ?_
        clear hK K
        refine wpFk_skip rfl (by rfl) (fun K hK => ?_)
        try go_simp
        refine hK _ ?_
        clear hK K
        refine wpFk_skip rfl (by rfl) (fun K hK => ?_)
        try go_simp
        refine hK _ ?_
        clear hK K
        refine wpFk_skip rfl (by rfl) (fun K hK => ?_)
        try go_simp
        refine hK _ ?_
        clear hK K
        refine wpFk_get rfl (by rfl) (fun K hK => ?_)
        refine ⟨?_, fun w' hS' => ?_, ?_⟩
        rotate_left
        · go_simp
          try (with_reducible rfl)
        try go_simp
        refine hK _ ?_
        clear hK K
        refine wpFk_get rfl (by rfl) (fun K hK => ?_)
        refine ⟨?_, fun w' hS' => ?_, ?_⟩
        rotate_left
        · go_simp
          try (with_reducible rfl)
        try go_simp
        refine hK _ ?_
        clear hK K
        refine wpFk_done ?_
        refine HQ.out _ _ ?_
        go_wp2
        go_ret
        exact ⟨by rw [HR2.out]; rfl, below_new HX.out.below HS.out⟩
  · have dm : ((m : Int) == 0) = false := by simp; omega
    have HR : Hid (R = valS older m n true ps (fun a b => decide (a = older) && decide (b = newer))) := Lib.hid (by rw [hR.out, holdsB_some (by omega)])
    have X1 : Hid (∀ W, ChkH w W C D A ps → Calls Tryd.prog 27 #[.int .i64 (m : Int), .int .i64 (n : Int), .agg C, .slice A q c, .func (.func 28) #[] #[.pointer (some ⟨w.heap.size, 0, none⟩), .pointer (some ⟨w.heap.size + 1, 0, none⟩)]] W fun e w' => e = .returned (.bool R) ∧ Below W.heap.size W w') := Lib.hid fun W hW => by
      have := says_any older HO.out m n (by omega) hmn (by omega) ps HP.out A c W hW.ps hW.tab HC.out hcm 28 w.heap.size (w.heap.size + 1) (fun a b => decide (a = older) && decide (b = newer)) (holds1_hands W w.heap.size (w.heap.size + 1) older newer HO.out HW.out (by rw [← hC.out]; exact hW.a) (by rw [← hD.out]; exact hW.b))
      rw [← hq.out, ← hC.out, ← HR.out] at this
      exact this
    clear hA hT hps ho hw hc
    go_enter Tryd.func19, Tryd.ntmps19
    go_upto_region 1 with fail
    refine world_gen (fun X => ChkH w X C D A ps) H0.out (fun X HX => ?_)
    have HX := Lib.hid HX
    have s5 := HX.out.a.read zC.out
    go_wp2_with (go_at_call 27; (with_reducible refine (X1.out _ HX.out).mono ?_); rintro e w2 ⟨rfl, hb⟩; have HB2 := Lib.hid (below_new HX.out.below hb); clear hb)
    go_ret
    exact ⟨rfl, HB2.out⟩
set_option maxHeartbeats 8000000 in
theorem pcheck_any (older newer : List Int) (ho : older.length = 32 ∧ bytes older) (hw : newer.length = 32 ∧ bytes newer) (m n : Int) (hm64 : -9223372036854775808 ≤ m ∧ m ≤ 9223372036854775807) (hn64 : -9223372036854775808 ≤ n ∧ n ≤ 9223372036854775807) (ps : List (List Int)) (hps : hashes ps) (A : Option Addr) (c : Nat) (w : World) (hA : HL w w.heap.size A ps) (hT : Tab w) (hc : ps.length ≤ c) (hcm : c ≤ 9223372036854775807) :
    Calls Tryd.prog 11 #[.int .i64 m, .int .i64 n, .agg (nums .u8 older), .agg (nums .u8 newer), .slice A ps.length c] w fun e w' => e = .returned (.int .i64 (checkP m n older newer ps)) ∧ Below w.heap.size w w' := by
  obtain ⟨q, hq⟩ : ∃ q, Hid (q = ps.length) := ⟨_, Lib.hid rfl⟩
  obtain ⟨C, hC⟩ : ∃ C, Hid (C = nums .u8 older) := ⟨_, Lib.hid rfl⟩
  obtain ⟨D, hD⟩ : ∃ D, Hid (D = nums .u8 newer) := ⟨_, Lib.hid rfl⟩
  have zC : Hid (C.size = 32) := Lib.hid (by rw [hC.out, nums_size]; exact ho.1)
  have zD : Hid (D.size = 32) := Lib.hid (by rw [hD.out, nums_size]; exact hw.1)
  have H0 := Lib.hid (ChkH.start (C := C) (D := D) hA hT)
  rw [← hq.out, ← hC.out, ← hD.out]
  by_cases h1 : n < 0
  · have d1 : decide (n < 0) = true := decide_eq_true h1
    have HF : Hid (checkP m n older newer ps = 2) := Lib.hid (checkP_arg (.inl h1))
    rw [HF.out]
    go_enter Tryd.func11, Tryd.ntmps11
    go_upto_region 1 with fail
    refine world_gen (fun X => ChkH w X C D A ps) H0.out (fun X HX => ?_)
    have HX := Lib.hid HX
    go_wp2
    go_ret
    exact ⟨rfl, HX.out.below⟩
  have d1 : decide (n < 0) = false := decide_eq_false h1
  by_cases h2 : 4096 < n
  · have d2 : decide (4096 < n) = true := decide_eq_true h2
    have HF : Hid (checkP m n older newer ps = 2) := Lib.hid (checkP_arg (.inr (.inl h2)))
    rw [HF.out]
    go_enter Tryd.func11, Tryd.ntmps11
    go_upto_region 1 with fail
    refine world_gen (fun X => ChkH w X C D A ps) H0.out (fun X HX => ?_)
    have HX := Lib.hid HX
    go_wp2
    go_ret
    exact ⟨rfl, HX.out.below⟩
  have d2 : decide (4096 < n) = false := decide_eq_false h2
  by_cases h3 : m < 0
  · have d3 : decide (m < 0) = true := decide_eq_true h3
    have HF : Hid (checkP m n older newer ps = 2) := Lib.hid (checkP_arg (.inr (.inr (.inl h3))))
    rw [HF.out]
    go_enter Tryd.func11, Tryd.ntmps11
    go_upto_region 1 with fail
    refine world_gen (fun X => ChkH w X C D A ps) H0.out (fun X HX => ?_)
    have HX := Lib.hid HX
    go_wp2
    go_ret
    exact ⟨rfl, HX.out.below⟩
  have d3 : decide (m < 0) = false := decide_eq_false h3
  by_cases h4 : n < m
  · have d4 : decide (n < m) = true := decide_eq_true h4
    have HF : Hid (checkP m n older newer ps = 2) := Lib.hid (checkP_arg (.inr (.inr (.inr h4))))
    rw [HF.out]
    go_enter Tryd.func11, Tryd.ntmps11
    go_upto_region 1 with fail
    refine world_gen (fun X => ChkH w X C D A ps) H0.out (fun X HX => ?_)
    have HX := Lib.hid HX
    go_wp2
    go_ret
    exact ⟨rfl, HX.out.below⟩
  obtain ⟨M, rfl⟩ : ∃ M : Nat, m = M := ⟨m.toNat, by omega⟩
  obtain ⟨N, rfl⟩ : ∃ N : Nat, n = N := ⟨n.toNat, by omega⟩
  have d4 : decide ((N : Int) < (M : Int)) = false := decide_eq_false h4
  have d5 : decide (N < M) = false := decide_eq_false (by omega)
  have d7 : ¬ ((N : Int) < (M : Int)) := h4
  have d8 : ¬ (N < M) := by omega
  have hMN : M ≤ N := by omega
  obtain ⟨R, hR⟩ : ∃ R, Hid (R = holdsB M N older newer ps) := ⟨_, Lib.hid rfl⟩
  have X1 : Hid (∀ W, ChkH w W C D A ps → Calls Tryd.prog 19 #[.int .i64 (M : Int), .int .i64 (N : Int), .agg C, .agg D, .slice A q c] W fun e w' => e = .returned (.bool R) ∧ Below W.heap.size W w') := Lib.hid fun W hW => by
    have := holds_any older newer ho hw M N hMN (by omega) ps hps A c W hW.ps hW.tab hc hcm
    rw [← hq.out, ← hC.out, ← hD.out, ← hR.out] at this
    exact this
  have HF : Hid (checkP (M : Int) (N : Int) older newer ps = if R = true then 0 else 80) := Lib.hid (by
    rw [hR.out, checkP_in hMN (by omega)]; unfold holdsB; simp only [decide_eq_true_eq])
  obtain ⟨E, hE⟩ : ∃ E, Hid (E = checkP (M : Int) (N : Int) older newer ps) := ⟨_, Lib.hid rfl⟩
  rw [← hE.out]
  rw [← hE.out] at HF
  clear hA hT hps ho hw hc h1 h2 h3 h4 hE
  cases hRR : R with
  | true =>
    rw [hRR] at X1 HF
    have HE : Hid (E = 0) := Lib.hid (by rw [HF.out]; rfl)
    go_enter Tryd.func11, Tryd.ntmps11
    go_upto_region 1 with fail
    refine world_gen (fun X => ChkH w X C D A ps) H0.out (fun X HX => ?_)
    have HX := Lib.hid HX
    have s5 := HX.out.a.read zC.out
    have s6 := HX.out.b.read zD.out
    go_wp2_with (go_at_call 19; (with_reducible refine (X1.out _ HX.out).mono ?_); rintro e w2 ⟨rfl, hb⟩; have HB2 := Lib.hid (below_new HX.out.below hb); clear hb)
    go_ret
    exact ⟨by rw [HE.out]; rfl, HB2.out⟩
  | false =>
    rw [hRR] at X1 HF
    have HE : Hid (E = 80) := Lib.hid (by rw [HF.out]; rfl)
    go_enter Tryd.func11, Tryd.ntmps11
    go_upto_region 1 with fail
    refine world_gen (fun X => ChkH w X C D A ps) H0.out (fun X HX => ?_)
    have HX := Lib.hid HX
    have s5 := HX.out.a.read zC.out
    have s6 := HX.out.b.read zD.out
    go_wp2_with (go_at_call 19; (with_reducible refine (X1.out _ HX.out).mono ?_); rintro e w2 ⟨rfl, hb⟩; have HB2 := Lib.hid (below_new HX.out.below hb); clear hb)
    go_ret
    exact ⟨by rw [HE.out]; rfl, HB2.out⟩
end Go.Proofs.YtkjgkeigfebcmaaDoor
