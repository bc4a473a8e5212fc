/-
  The walk of the statement LamportApart: it returns true, where the program's functions say what they ought to; what it makes is new memory, nothing that was there changes. Conditions: the two tables as they were laid, numbers that are bytes.
-/
import Derived.Test.YtllabnhgiojmmaaDoorLampKeyed
import Derived.Test.YtllabnhgiojmmaaDoorFork
namespace Go.Proofs.YtllabnhgiojmmaaDoor
open Go.RowKit Go.Great
set_option linter.unusedVariables false
set_option maxRecDepth 100000

/-- What the statement holds: its numbers. -/
structure ApH (w : World) (N : Array Value) (W : World) : Prop where
  num : Row W w.heap.size 43 N
  tab : Tab W
  below : Below w.heap.size w W
theorem ApH.next {w W W1 : World} {N : Array Value} (h : ApH w N W) (hb : Below W.heap.size W W1) : ApH w N W1 := ⟨h.num.next hb, h.tab.next hb, below_new h.below hb⟩
theorem ApH.cells {w W : World} {n0 n1 n2 n3 n4 n5 : Int} (h : ApH w (nums .u8 [n0, n1, n2, n3, n4, n5]) W) :
    W.cell? ⟨w.heap.size, 0, none⟩ = some (.int .u8 n0) ∧ W.cell? ⟨w.heap.size, 1, none⟩ = some (.int .u8 n1) ∧ W.cell? ⟨w.heap.size, 2, none⟩ = some (.int .u8 n2) ∧ W.cell? ⟨w.heap.size, 3, none⟩ = some (.int .u8 n3) ∧ W.cell? ⟨w.heap.size, 4, none⟩ = some (.int .u8 n4) ∧ W.cell? ⟨w.heap.size, 5, none⟩ = some (.int .u8 n5) :=
  ⟨h.num.cell 0, h.num.cell 1, h.num.cell 2, h.num.cell 3, h.num.cell 4, h.num.cell 5⟩
/-- With three secrets. -/
structure ApK (w : World) (N X Y : Array Value) (g8 g9 g10 : Nat) (W : World) : Prop where
  ap : ApH w N W
  r8 : Row W g8 24 X
  r9 : Row W g9 24 Y
  r10 : Row W g10 24 X
theorem ApK.next {w W W1 : World} {N X Y : Array Value} {g8 g9 g10 : Nat} (h : ApK w N X Y g8 g9 g10 W) (hb : Below W.heap.size W W1) : ApK w N X Y g8 g9 g10 W1 := ⟨h.ap.next hb, h.r8.next hb, h.r9.next hb, h.r10.next hb⟩
theorem ApK.drew {w W : World} {N X Y : Array Value} {g8 g9 g10 : Nat} (h : ApK w N X Y g8 g9 g10 W) : ApK w N X Y g8 g9 g10 W.drew := h.next (Below.refl _ _).drew
theorem list_text {a b : ByteArray} (h : a.toList = b.toList) : a = b := by
  rw [ByteArray.toList_eq, ByteArray.toList_eq] at h
  cases a; cases b
  congr 1
  exact Array.toList_inj.1 h
attribute [local go_sem ↓ high] read_at write_at eq_at neq_at
set_option maxHeartbeats 8000000 in
theorem lapartlaw_any (SEC : SecretSays) (SIG : SignSays) (REC : RecoverSays) (a b : ByteArray) (ha : a.size ≤ maxLen) (hb : b.size ≤ maxLen) (n0 n1 n2 n3 n4 n5 : Int) (hn : (0 ≤ n0 ∧ n0 < 256) ∧ (0 ≤ n1 ∧ n1 < 256) ∧ (0 ≤ n2 ∧ n2 < 256) ∧ (0 ≤ n3 ∧ n3 < 256) ∧ (0 ≤ n4 ∧ n4 < 256) ∧ (0 ≤ n5 ∧ n5 < 256)) (w : World) (hT : Tab w) :
    Calls Tryd.prog 7 #[.string a, .string b, .agg (nums .u8 [n0, n1, n2, n3, n4, n5])] w fun e w' => e = .returned (.bool true) ∧ Below w.heap.size w w' := by
  have KED : Hid (∀ W, Tab W → Calls Tryd.prog 8 #[] W fun e w' => e = .returned (.bool true) ∧ Below W.heap.size W w') := Lib.hid fun W h => keyed_any SEC SIG REC W h
  have HT := Lib.hid hT
  have H0 : Hid (ApH w (nums .u8 [n0, n1, n2, n3, n4, n5]) (w.alloc (.cells (nums .u8 [n0, n1, n2, n3, n4, n5]) 43))) := Lib.hid ⟨Row.made _ _ _, hT.next ((Below.refl _ _).alloc (Nat.le_refl _) _), (Below.refl _ _).alloc (Nat.le_refl _) _⟩
  have GH : Hid (∀ W, ApH w (nums .u8 [n0, n1, n2, n3, n4, n5]) W → True) := Lib.hid fun _ _ => trivial
  obtain ⟨N, hN⟩ : ∃ N, N = nums .u8 [n0, n1, n2, n3, n4, n5] := ⟨_, rfl⟩
  rw [← hN] at H0 ⊢
  have zN : N.size = 6 := by rw [hN]; rfl
  have CL : Hid (∀ W, ApH w N W → W.cell? ⟨w.heap.size, 0, none⟩ = some (.int .u8 n0) ∧ W.cell? ⟨w.heap.size, 1, none⟩ = some (.int .u8 n1) ∧ W.cell? ⟨w.heap.size, 2, none⟩ = some (.int .u8 n2) ∧ W.cell? ⟨w.heap.size, 3, none⟩ = some (.int .u8 n3) ∧ W.cell? ⟨w.heap.size, 4, none⟩ = some (.int .u8 n4) ∧ W.cell? ⟨w.heap.size, 5, none⟩ = some (.int .u8 n5)) := Lib.hid fun W h => by
    subst hN; exact h.cells
  clear hN GH
  by_cases h1 : 100 < a.size
  · have d1 : decide (100 < (a.size : Int)) = true := decide_eq_true (by omega)
    have d2 : (100 : Int) < (a.size : Int) := by omega
    clear ha hb hT hn
    go_enter Tryd.func7, Tryd.ntmps7
    go_upto_region 1 with fail
    refine world_gen (fun X => ApH w N X) H0.out (fun X HX => ?_)
    have HX := Lib.hid HX
    go_wp2_with (go_at_call 8; (with_reducible refine (KED.out _ HX.out.tab).mono ?_); rintro e w1 ⟨rfl, hb⟩; have HX := Lib.hid (HX.out.next hb); clear hb)
    go_ret
    exact ⟨rfl, HX.out.below⟩
  have d1 : decide (100 < (a.size : Int)) = false := decide_eq_false (by omega)
  have d2 : ¬ (100 : Int) < (a.size : Int) := by omega
  by_cases h2 : 100 < b.size
  · have d3 : decide (100 < (b.size : Int)) = true := decide_eq_true (by omega)
    have d4 : (100 : Int) < (b.size : Int) := by omega
    clear ha hb hT hn
    go_enter Tryd.func7, Tryd.ntmps7
    go_upto_region 1 with fail
    refine world_gen (fun X => ApH w N X) H0.out (fun X HX => ?_)
    have HX := Lib.hid HX
    go_wp2_with (go_at_call 8; (with_reducible refine (KED.out _ HX.out.tab).mono ?_); rintro e w1 ⟨rfl, hb⟩; have HX := Lib.hid (HX.out.next hb); clear hb)
    go_ret
    exact ⟨rfl, HX.out.below⟩
  have d3 : decide (100 < (b.size : Int)) = false := decide_eq_false (by omega)
  have d4 : ¬ (100 : Int) < (b.size : Int) := by omega
  clear ha hb hT
  go_enter Tryd.func7, Tryd.ntmps7
  go_upto_region 1 with fail
  refine world_gen (fun X => ApH w N X) H0.out (fun X HX => ?_)
  have HX := Lib.hid HX
  clear H0
  go_upto_region 3 with fail
  obtain ⟨c0, c1, c2, c3, c4, c5⟩ := CL.out _ HX.out
  go_cut [7] (fun s7 wx => ∃ q : Bool, s7 = .bool q ∧ Hid (q = true ↔ a = b ∧ n0 = n1 ∧ n2 = n3 ∧ n4 % 2 = n5 % 2) ∧ Hid (ApH w N wx))
  case first =>
    by_cases hab : a.toList = b.toList
    · obtain rfl := list_text hab
      by_cases h01 : n0 = n1
      · by_cases h23 : n2 = n3
        · go_wp2_with fail
          go_meet
          exact ⟨_, rfl, Lib.hid (by simp [h01, h23]), HX⟩
        · go_wp2_with fail
          go_meet
          exact ⟨_, rfl, Lib.hid (by simp [h01, h23]), HX⟩
      · go_wp2_with fail
        go_meet
        exact ⟨_, rfl, Lib.hid (by simp [h01]), HX⟩
    · have hne : ¬ a = b := fun e => hab (by rw [e])
      go_wp2_with fail
      go_meet
      exact ⟨_, rfl, Lib.hid (by simp [hne]), HX⟩
  case rest =>
  obtain ⟨q, rfl, HQ, HA⟩ := hcut
  clear HX c0 c1 c2 c3 c4 c5
  obtain ⟨x, hx⟩ : ∃ x, Hid (x = secF a n0 n2 (n4 % 2)) := ⟨_, Lib.hid rfl⟩
  obtain ⟨y, hy⟩ : ∃ y, Hid (y = secF b n1 n3 (n5 % 2)) := ⟨_, Lib.hid rfl⟩
  have hx32 : x.length = 32 ∧ bytes x := by rw [hx.out]; exact secF_is _ _ _ _
  have hy32 : y.length = 32 ∧ bytes y := by rw [hy.out]; exact secF_is _ _ _ _
  obtain ⟨X, hX⟩ : ∃ X, Hid (X = nums .u8 x) := ⟨_, Lib.hid rfl⟩
  obtain ⟨Y, hY⟩ : ∃ Y, Hid (Y = nums .u8 y) := ⟨_, Lib.hid rfl⟩
  have zX : Hid (X.size = 32) := Lib.hid (by rw [hX.out, nums_size]; exact hx32.1)
  have oX : Hid (X.all (·.oneCell') = true) := Lib.hid (by rw [hX.out]; exact nums_one _ _)
  have zY : Hid (Y.size = 32) := Lib.hid (by rw [hY.out, nums_size]; exact hy32.1)
  have oY : Hid (Y.all (·.oneCell') = true) := Lib.hid (by rw [hY.out]; exact nums_one _ _)
  have XA : Hid (∀ W, Tab W → Calls Tryd.prog 11 #[.string a, .int .i64 n0, .int .i64 n2, .int .i64 (n4 % 2)] W fun e w' => e = .returned (.agg X) ∧ Below W.heap.size W w') := Lib.hid fun W h => by
    rw [hX.out, hx.out]; exact SEC a n0 n2 (n4 % 2) W h (by omega) (by unfold num64; omega) (by unfold num64; omega) (by unfold num64; omega)
  have XB : Hid (∀ W, Tab W → Calls Tryd.prog 11 #[.string b, .int .i64 n1, .int .i64 n3, .int .i64 (n5 % 2)] W fun e w' => e = .returned (.agg Y) ∧ Below W.heap.size W w') := Lib.hid fun W h => by
    rw [hY.out, hy.out]; exact SEC b n1 n3 (n5 % 2) W h (by omega) (by unfold num64; omega) (by unfold num64; omega) (by unfold num64; omega)
  have RA : Hid (∀ W, Calls Tryd.prog 12 #[.string a, .int .i64 n0, .int .i64 n2, .int .i64 (n4 % 2)] W fun e w' => e = .returned (.agg X) ∧ Below W.heap.size W w') := Lib.hid fun W => by
    rw [hX.out, hx.out]; exact refSecret_any a (by omega) n0 n2 (n4 % 2) (by omega) W
  have RB : Hid (∀ W, Calls Tryd.prog 12 #[.string b, .int .i64 n1, .int .i64 n3, .int .i64 (n5 % 2)] W fun e w' => e = .returned (.agg Y) ∧ Below W.heap.size W w') := Lib.hid fun W => by
    rw [hY.out, hy.out]; exact refSecret_any b (by omega) n1 n3 (n5 % 2) (by omega) W
  obtain ⟨r, hr⟩ : ∃ r : Bool, r = decide (x = y) := ⟨_, rfl⟩
  have EQ : Hid (∀ W, (eqAt (.agg X) (.agg Y)).run Tryd.prog W = .ok (.bool r) W) := Lib.hid fun W => by
    rw [hX.out, hY.out, hr]; exact eqAt_hash _ _ hx32.1 hy32.1 hx32.2 hy32.2 W
  have NX : Hid (∀ W, (neqAt (.agg X) (.agg X)).run Tryd.prog W = .ok (.bool false) W) := Lib.hid fun W => by
    rw [hX.out, neqAt_hash _ _ hx32.1 hx32.1 hx32.2 hx32.2 W, decide_eq_true rfl]; rfl
  have EX : ∀ W, (eqAt (.agg X) (.agg X)).run Tryd.prog W = .ok (.bool true) W := fun W => by
    rw [hX.out, eqAt_hash _ _ hx32.1 hx32.1 hx32.2 hx32.2 W, decide_eq_true rfl]
  have EY := EQ.out
  have QR : Hid (q = true → r = true) := Lib.hid fun h => by
    obtain ⟨e0, e1, e2, e3⟩ := HQ.out.1 h
    rw [hr]; exact decide_eq_true (by rw [hx.out, hy.out, e0, e1, e2, e3])
  have hw0 : IntKind.i64.wrap n0 = n0 := by rw [IntKind.wrap_i64]; omega
  have hw1 : IntKind.i64.wrap n1 = n1 := by rw [IntKind.wrap_i64]; omega
  have hw2 : IntKind.i64.wrap n2 = n2 := by rw [IntKind.wrap_i64]; omega
  have hw3 : IntKind.i64.wrap n3 = n3 := by rw [IntKind.wrap_i64]; omega
  have hw4 : IntKind.i64.wrap (n4 % 2) = n4 % 2 := by rw [IntKind.wrap_i64]; omega
  have hw5 : IntKind.i64.wrap (n5 % 2) = n5 % 2 := by rw [IntKind.wrap_i64]; omega
  have hm4 : n4.tmod 2 = n4 % 2 := Int.tmod_eq_emod_of_nonneg (by omega)
  have hm5 : n5.tmod 2 = n5 % 2 := Int.tmod_eq_emod_of_nonneg (by omega)
  have hv4 : wrap64 (n4 % 2) = n4 % 2 := by unfold wrap64; omega
  have hv5 : wrap64 (n5 % 2) = n5 % 2 := by unfold wrap64; omega
  clear hn hx hy hX hY hx32 hy32 hr HQ h1 h2
  obtain ⟨c0, c1, c2, c3, c4, c5⟩ := CL.out _ HA.out
  go_upto_region 5 with (go_at_call 11; (with_reducible refine (XA.out _ HA.out.tab).mono ?_); rintro e w1 ⟨rfl, hb⟩; obtain ⟨w2, s2, hr2, hb2, hz2⟩ := made_write w1 X zX.out oX.out; have H2 := Lib.hid ((HA.out.next hb).next hb2); have HR2 := Lib.hid hr2; clear hr2 hb2 hz2 hb)
  clear s2 c0 c1 c2 c3 c4 c5 HA
  obtain ⟨c0, c1, c2, c3, c4, c5⟩ := CL.out _ H2.out
  go_upto_region 6 with (go_at_call 11; (with_reducible refine (XB.out _ H2.out.tab).mono ?_); rintro e w3 ⟨rfl, hb⟩; obtain ⟨w4, s4, hr4, hb4, hz4⟩ := made_write w3 Y zY.out oY.out; have H4 := Lib.hid ((H2.out.next hb).next hb4); have HR4 := Lib.hid (And.intro ((HR2.out.next hb).next hb4) hr4); clear hr4 hb4 hz4 hb)
  clear s4 c0 c1 c2 c3 c4 c5 H2 HR2
  obtain ⟨c0, c1, c2, c3, c4, c5⟩ := CL.out _ H4.out
  go_upto_region 7 with (go_at_call 12; (with_reducible refine (RA.out _).mono ?_); rintro e w5 ⟨rfl, hb⟩; obtain ⟨w6, s6, hr6, hb6, hz6⟩ := made_write w5 X zX.out oX.out; have HK : Hid (ApK w N X Y w1.heap.size w3.heap.size w5.heap.size w6) := Lib.hid ⟨(H4.out.next hb).next hb6, (HR4.out.1.next hb).next hb6, (HR4.out.2.next hb).next hb6, hr6⟩; clear hr6 hb6 hz6 hb)
  clear s6 c0 c1 c2 c3 c4 c5 H4 HR4
  cases q
  · cases r
    · skip
      refine wp_region_fk (ApK w N X Y w1.heap.size w3.heap.size w5.heap.size) (.get 0 (.get 1 (.get 2 (.get 3 (.get 4 (.get 5 (.get 6 (.get 7 (.get 8 (.get 9 (.get 10 (.get 11 (.get 12 (.get 13 (.get 14 (.get 15 (.get 16 (.get 17 (.get 18 (.call 19 (.get 20 (.get 21 (.get 22 .done))))))))))))))))))))))) (by kernel_rfl) rfl (by kernel_rfl) (by kernel_rfl) (by intro c a d v w h; cases d <;> exact h) HK.out.drew (fun Q' hQ => ?_)
      have HS := Lib.hid HK.out.drew
      have HQ := Lib.hid hQ
      clear hQ
      refine wpFk_get rfl (by rfl) (fun K hK => ?_)
      refine ⟨_, fun w' hS' => get_load rfl rfl (hS'.r10.read zX.out), ?_⟩
      try go_simp
      refine hK _ ?_
      clear hK K
      refine wpFk_get rfl (by rfl) (fun K hK => ?_)
      refine ⟨_, fun w' hS' => get_load rfl rfl (hS'.r8.read zX.out), ?_⟩
      try go_simp
      refine hK _ ?_
      clear hK K
      refine wpFk_get rfl (by rfl) (fun K hK => ?_)
      refine ⟨_, fun w' hS' => get_neqH rfl rfl rfl (NX.out _), ?_⟩
      try go_simp
      refine hK _ ?_
      clear hK K
      refine wpFk_get rfl (by rfl) (fun K hK => ?_)
      refine ⟨?_, fun w' hS' => ?_, ?_⟩
      rotate_left
      · go_simp
        try (with_reducible rfl)
      try go_simp
      refine hK _ ?_
      clear hK K
      refine wpFk_get rfl (by rfl) (fun K hK => ?_)
      refine ⟨?_, fun w' hS' => ?_, ?_⟩
      rotate_left
      · go_simp
        try (with_reducible rfl)
      try go_simp
      refine hK _ ?_
      clear hK K
      refine wpFk_get rfl (by rfl) (fun K hK => ?_)
      refine ⟨?_, fun w' hS' => ?_, ?_⟩
      rotate_left
      · go_simp
        try (with_reducible rfl)
      try go_simp
      refine hK _ ?_
      clear hK K
      refine wpFk_get rfl (by rfl) (fun K hK => ?_)
      refine ⟨?_, fun w' hS' => ?_, ?_⟩
      rotate_left
      · go_simp
        try (with_reducible rfl)
      try go_simp
      refine hK _ ?_
      clear hK K
      refine wpFk_get rfl (by rfl) (fun K hK => ?_)
      refine ⟨_, fun w' hS' => get_load rfl rfl (hS'.r10.read zX.out), ?_⟩
      try go_simp
      refine hK _ ?_
      clear hK K
      refine wpFk_get rfl (by rfl) (fun K hK => ?_)
      refine ⟨?_, fun w' hS' => ?_, ?_⟩
      rotate_left
      · go_simp
        try (with_reducible rfl)
      try go_simp
      refine hK _ ?_
      clear hK K
      refine wpFk_get rfl (by rfl) (fun K hK => ?_)
      refine ⟨?_, fun w' hS' => ?_, ?_⟩
      rotate_left
      · go_simp
        try (with_reducible rfl)
      try go_simp
      refine hK _ ?_
      clear hK K
      refine wpFk_get rfl (by rfl) (fun K hK => ?_)
      refine ⟨?_, fun w' hS' => ?_, ?_⟩
      rotate_left
      · have ⟨c0, c1, c2, c3, c4, c5⟩ := CL.out _ hS'.ap
        go_simp
        try (with_reducible rfl)
      try go_simp
      refine hK _ ?_
      clear hK K
      refine wpFk_get rfl (by rfl) (fun K hK => ?_)
      refine ⟨?_, fun w' hS' => ?_, ?_⟩
      rotate_left
      · go_simp
        try (with_reducible rfl)
      try go_simp
      refine hK _ ?_
      clear hK K
      refine wpFk_get rfl (by rfl) (fun K hK => ?_)
      refine ⟨?_, fun w' hS' => ?_, ?_⟩
      rotate_left
      · go_simp
        try (with_reducible rfl)
      try go_simp
      refine hK _ ?_
      clear hK K
      refine wpFk_get rfl (by rfl) (fun K hK => ?_)
      refine ⟨?_, fun w' hS' => ?_, ?_⟩
      rotate_left
      · have ⟨c0, c1, c2, c3, c4, c5⟩ := CL.out _ hS'.ap
        go_simp
        try (with_reducible rfl)
      try go_simp
      refine hK _ ?_
      clear hK K
      refine wpFk_get rfl (by rfl) (fun K hK => ?_)
      refine ⟨?_, fun w' hS' => ?_, ?_⟩
      rotate_left
      · go_simp
        try (with_reducible rfl)
      try go_simp
      refine hK _ ?_
      clear hK K
      refine wpFk_get rfl (by rfl) (fun K hK => ?_)
      refine ⟨?_, fun w' hS' => ?_, ?_⟩
      rotate_left
      · go_simp
        try (with_reducible rfl)
      try go_simp
      refine hK _ ?_
      clear hK K
      refine wpFk_get rfl (by rfl) (fun K hK => ?_)
      refine ⟨?_, fun w' hS' => ?_, ?_⟩
      rotate_left
      · have ⟨c0, c1, c2, c3, c4, c5⟩ := CL.out _ hS'.ap
        go_simp
        try (with_reducible rfl)
      try go_simp
      refine hK _ ?_
      clear hK K
      refine wpFk_get rfl (by rfl) (fun K hK => ?_)
      refine ⟨?_, fun w' hS' => ?_, ?_⟩
      rotate_left
      · go_simp
        try (with_reducible rfl)
      try go_simp
      refine hK _ ?_
      clear hK K
      refine wpFk_get rfl (by rfl) (fun K hK => ?_)
      refine ⟨?_, fun w' hS' => ?_, ?_⟩
      rotate_left
      · go_simp
        try (with_reducible rfl)
      try go_simp
      refine hK _ ?_
      clear hK K
      refine wpFk_call rfl (by rfl) (fun K hK => ?_)
      go_simp
      go_at_call 12
      (with_reducible refine (RB.out _).mono ?_)
      rintro e w2x ⟨rfl, hb⟩
      replace HS := Lib.hid (HS.out.next hb)
      clear hb
      refine hK _ _ HS.out ?_
      clear hK K
      refine wpFk_get rfl (by rfl) (fun K hK => ?_)
      refine ⟨_, fun w' hS' => get_eqH rfl rfl rfl (EQ.out _), ?_⟩
      try go_simp
      refine hK _ ?_
      clear hK K
      refine wpFk_get rfl (by rfl) (fun K hK => ?_)
      refine ⟨?_, fun w' hS' => ?_, ?_⟩
      rotate_left
      · go_simp
        try (with_reducible rfl)
      try go_simp
      refine hK _ ?_
      clear hK K
      refine wpFk_get rfl (by rfl) (fun K hK => ?_)
      refine ⟨?_, fun w' hS' => ?_, ?_⟩
      rotate_left
      · go_simp
        try (with_reducible rfl)
      try go_simp
      refine hK _ ?_
      clear hK K
      refine wpFk_done ?_
      refine HQ.out _ _ ?_
      have l8 := HS.out.r8.read zX.out
      have l9 := HS.out.r9.read zY.out
      have l10 := HS.out.r10.read zX.out
      go_wp2_with (go_at_call 8; (with_reducible refine (KED.out _ HS.out.ap.tab).mono ?_); rintro e w9 ⟨rfl, hb⟩; have HZ := Lib.hid (HS.out.next hb); clear hb)
      go_ret
      exact ⟨rfl, HZ.out.ap.below⟩
    · skip
      refine wp_region_fk (ApK w N X Y w1.heap.size w3.heap.size w5.heap.size) (.get 0 (.get 1 (.get 2 (.get 3 (.get 4 (.get 5 (.get 6 (.get 7 (.get 8 (.get 9 (.get 10 (.get 11 (.get 12 (.get 13 (.get 14 (.get 15 (.get 16 (.get 17 (.get 18 (.call 19 (.get 20 (.get 21 (.get 22 .done))))))))))))))))))))))) (by kernel_rfl) rfl (by kernel_rfl) (by kernel_rfl) (by intro c a d v w h; cases d <;> exact h) HK.out.drew (fun Q' hQ => ?_)
      have HS := Lib.hid HK.out.drew
      have HQ := Lib.hid hQ
      clear hQ
      refine wpFk_get rfl (by rfl) (fun K hK => ?_)
      refine ⟨_, fun w' hS' => get_load rfl rfl (hS'.r10.read zX.out), ?_⟩
      try go_simp
      refine hK _ ?_
      clear hK K
      refine wpFk_get rfl (by rfl) (fun K hK => ?_)
      refine ⟨_, fun w' hS' => get_load rfl rfl (hS'.r8.read zX.out), ?_⟩
      try go_simp
      refine hK _ ?_
      clear hK K
      refine wpFk_get rfl (by rfl) (fun K hK => ?_)
      refine ⟨_, fun w' hS' => get_neqH rfl rfl rfl (NX.out _), ?_⟩
      try go_simp
      refine hK _ ?_
      clear hK K
      refine wpFk_get rfl (by rfl) (fun K hK => ?_)
      refine ⟨?_, fun w' hS' => ?_, ?_⟩
      rotate_left
      · go_simp
        try (with_reducible rfl)
      try go_simp
      refine hK _ ?_
      clear hK K
      refine wpFk_get rfl (by rfl) (fun K hK => ?_)
      refine ⟨?_, fun w' hS' => ?_, ?_⟩
      rotate_left
      · go_simp
        try (with_reducible rfl)
      try go_simp
      refine hK _ ?_
      clear hK K
      refine wpFk_get rfl (by rfl) (fun K hK => ?_)
      refine ⟨?_, fun w' hS' => ?_, ?_⟩
      rotate_left
      · go_simp
        try (with_reducible rfl)
      try go_simp
      refine hK _ ?_
      clear hK K
      refine wpFk_get rfl (by rfl) (fun K hK => ?_)
      refine ⟨?_, fun w' hS' => ?_, ?_⟩
      rotate_left
      · go_simp
        try (with_reducible rfl)
      try go_simp
      refine hK _ ?_
      clear hK K
      refine wpFk_get rfl (by rfl) (fun K hK => ?_)
      refine ⟨_, fun w' hS' => get_load rfl rfl (hS'.r10.read zX.out), ?_⟩
      try go_simp
      refine hK _ ?_
      clear hK K
      refine wpFk_get rfl (by rfl) (fun K hK => ?_)
      refine ⟨?_, fun w' hS' => ?_, ?_⟩
      rotate_left
      · go_simp
        try (with_reducible rfl)
      try go_simp
      refine hK _ ?_
      clear hK K
      refine wpFk_get rfl (by rfl) (fun K hK => ?_)
      refine ⟨?_, fun w' hS' => ?_, ?_⟩
      rotate_left
      · go_simp
        try (with_reducible rfl)
      try go_simp
      refine hK _ ?_
      clear hK K
      refine wpFk_get rfl (by rfl) (fun K hK => ?_)
      refine ⟨?_, fun w' hS' => ?_, ?_⟩
      rotate_left
      · have ⟨c0, c1, c2, c3, c4, c5⟩ := CL.out _ hS'.ap
        go_simp
        try (with_reducible rfl)
      try go_simp
      refine hK _ ?_
      clear hK K
      refine wpFk_get rfl (by rfl) (fun K hK => ?_)
      refine ⟨?_, fun w' hS' => ?_, ?_⟩
      rotate_left
      · go_simp
        try (with_reducible rfl)
      try go_simp
      refine hK _ ?_
      clear hK K
      refine wpFk_get rfl (by rfl) (fun K hK => ?_)
      refine ⟨?_, fun w' hS' => ?_, ?_⟩
      rotate_left
      · go_simp
        try (with_reducible rfl)
      try go_simp
      refine hK _ ?_
      clear hK K
      refine wpFk_get rfl (by rfl) (fun K hK => ?_)
      refine ⟨?_, fun w' hS' => ?_, ?_⟩
      rotate_left
      · have ⟨c0, c1, c2, c3, c4, c5⟩ := CL.out _ hS'.ap
        go_simp
        try (with_reducible rfl)
      try go_simp
      refine hK _ ?_
      clear hK K
      refine wpFk_get rfl (by rfl) (fun K hK => ?_)
      refine ⟨?_, fun w' hS' => ?_, ?_⟩
      rotate_left
      · go_simp
        try (with_reducible rfl)
      try go_simp
      refine hK _ ?_
      clear hK K
      refine wpFk_get rfl (by rfl) (fun K hK => ?_)
      refine ⟨?_, fun w' hS' => ?_, ?_⟩
      rotate_left
      · go_simp
        try (with_reducible rfl)
      try go_simp
      refine hK _ ?_
      clear hK K
      refine wpFk_get rfl (by rfl) (fun K hK => ?_)
      refine ⟨?_, fun w' hS' => ?_, ?_⟩
      rotate_left
      · have ⟨c0, c1, c2, c3, c4, c5⟩ := CL.out _ hS'.ap
        go_simp
        try (with_reducible rfl)
      try go_simp
      refine hK _ ?_
      clear hK K
      refine wpFk_get rfl (by rfl) (fun K hK => ?_)
      refine ⟨?_, fun w' hS' => ?_, ?_⟩
      rotate_left
      · go_simp
        try (with_reducible rfl)
      try go_simp
      refine hK _ ?_
      clear hK K
      refine wpFk_get rfl (by rfl) (fun K hK => ?_)
      refine ⟨?_, fun w' hS' => ?_, ?_⟩
      rotate_left
      · go_simp
        try (with_reducible rfl)
      try go_simp
      refine hK _ ?_
      clear hK K
      refine wpFk_call rfl (by rfl) (fun K hK => ?_)
      go_simp
      go_at_call 12
      (with_reducible refine (RB.out _).mono ?_)
      rintro e w2x ⟨rfl, hb⟩
      replace HS := Lib.hid (HS.out.next hb)
      clear hb
      refine hK _ _ HS.out ?_
      clear hK K
      refine wpFk_get rfl (by rfl) (fun K hK => ?_)
      refine ⟨_, fun w' hS' => get_eqH rfl rfl rfl (EQ.out _), ?_⟩
      try go_simp
      refine hK _ ?_
      clear hK K
      refine wpFk_get rfl (by rfl) (fun K hK => ?_)
      refine ⟨?_, fun w' hS' => ?_, ?_⟩
      rotate_left
      · go_simp
        try (with_reducible rfl)
      try go_simp
      refine hK _ ?_
      clear hK K
      refine wpFk_get rfl (by rfl) (fun K hK => ?_)
      refine ⟨?_, fun w' hS' => ?_, ?_⟩
      rotate_left
      · go_simp
        try (with_reducible rfl)
      try go_simp
      refine hK _ ?_
      clear hK K
      refine wpFk_done ?_
      refine HQ.out _ _ ?_
      have l8 := HS.out.r8.read zX.out
      have l9 := HS.out.r9.read zY.out
      have l10 := HS.out.r10.read zX.out
      go_wp2_with (go_at_call 8; (with_reducible refine (KED.out _ HS.out.ap.tab).mono ?_); rintro e w9 ⟨rfl, hb⟩; have HZ := Lib.hid (HS.out.next hb); clear hb)
      go_ret
      exact ⟨rfl, HZ.out.ap.below⟩
  · obtain rfl := QR.out rfl
    refine wp_region_fk (ApK w N X Y w1.heap.size w3.heap.size w5.heap.size) (.get 0 (.get 1 (.get 2 (.get 3 (.get 4 (.get 5 (.get 6 (.get 7 (.get 8 (.get 9 (.get 10 (.get 11 (.get 12 (.get 13 (.get 14 (.get 15 (.get 16 (.get 17 (.get 18 (.get 19 (.get 20 (.get 21 (.get 22 .done))))))))))))))))))))))) (by kernel_rfl) rfl (by kernel_rfl) (by kernel_rfl) (by intro c a d v w h; cases d <;> exact h) HK.out.drew (fun Q' hQ => ?_)
    have HS := Lib.hid HK.out.drew
    have HQ := Lib.hid hQ
    clear hQ
    refine wpFk_get rfl (by rfl) (fun K hK => ?_)
    refine ⟨_, fun w' hS' => get_load rfl rfl (hS'.r10.read zX.out), ?_⟩
    try go_simp
    refine hK _ ?_
    clear hK K
    refine wpFk_get rfl (by rfl) (fun K hK => ?_)
    refine ⟨_, fun w' hS' => get_load rfl rfl (hS'.r8.read zX.out), ?_⟩
    try go_simp
    refine hK _ ?_
    clear hK K
    refine wpFk_get rfl (by rfl) (fun K hK => ?_)
    refine ⟨_, fun w' hS' => get_neqH rfl rfl rfl (NX.out _), ?_⟩
    try go_simp
    refine hK _ ?_
    clear hK K
    refine wpFk_get rfl (by rfl) (fun K hK => ?_)
    refine ⟨?_, fun w' hS' => ?_, ?_⟩
    rotate_left
    · go_simp
      try (with_reducible rfl)
    try go_simp
    refine hK _ ?_
    clear hK K
    refine wpFk_get rfl (by rfl) (fun K hK => ?_)
    refine ⟨?_, fun w' hS' => ?_, ?_⟩
    rotate_left
    · go_simp
      try (with_reducible rfl)
    try go_simp
    refine hK _ ?_
    clear hK K
    refine wpFk_get rfl (by rfl) (fun K hK => ?_)
    refine ⟨?_, fun w' hS' => ?_, ?_⟩
    rotate_left
    · go_simp
      try (with_reducible rfl)
    try go_simp
    refine hK _ ?_
    clear hK K
    refine wpFk_get rfl (by rfl) (fun K hK => ?_)
    refine ⟨?_, fun w' hS' => ?_, ?_⟩
    rotate_left
    · go_simp
      try (with_reducible rfl)
    try go_simp
    refine hK _ ?_
    clear hK K
    refine wpFk_skip rfl (by rfl) (fun K hK => ?_)
    try go_simp
    refine hK _ ?_
    clear hK K
    refine wpFk_skip rfl (by rfl) (fun K hK => ?_)
    try go_simp
    refine hK _ ?_
    clear hK K
    refine wpFk_skip rfl (by rfl) (fun K hK => ?_)
    try go_simp
    refine hK _ ?_
    clear hK K
    refine wpFk_skip rfl (by rfl) (fun K hK => ?_)
    try go_simp
    refine hK _ ?_
    clear hK K
    refine wpFk_skip rfl (by rfl) (fun K hK => ?_)
    try go_simp
    refine hK _ ?_
    clear hK K
    refine wpFk_skip rfl (by rfl) (fun K hK => ?_)
    try go_simp
    refine hK _ ?_
    clear hK K
    refine wpFk_skip rfl (by rfl) (fun K hK => ?_)
    try go_simp
    refine hK _ ?_
    clear hK K
    refine wpFk_skip rfl (by rfl) (fun K hK => ?_)
    try go_simp
    refine hK _ ?_
    clear hK K
    refine wpFk_skip rfl (by rfl) (fun K hK => ?_)
    try go_simp
    refine hK _ ?_
    clear hK K
    refine wpFk_skip rfl (by rfl) (fun K hK => ?_)
    try go_simp
    refine hK _ ?_
    clear hK K
    refine wpFk_skip rfl (by rfl) (fun K hK => ?_)
    try go_simp
    refine hK _ ?_
    clear hK K
    refine wpFk_skip rfl (by rfl) (fun K hK => ?_)
    try go_simp
    refine hK _ ?_
    clear hK K
    refine wpFk_skip rfl (by rfl) (fun K hK => ?_)
    try go_simp
    refine hK _ ?_
    clear hK K
    refine wpFk_skip rfl (by rfl) (fun K hK => ?_)
    try go_simp
    refine hK _ ?_
    clear hK K
    refine wpFk_get rfl (by rfl) (fun K hK => ?_)
    refine ⟨?_, fun w' hS' => ?_, ?_⟩
    rotate_left
    · go_simp
      try (with_reducible rfl)
    try go_simp
    refine hK _ ?_
    clear hK K
    refine wpFk_get rfl (by rfl) (fun K hK => ?_)
    refine ⟨?_, fun w' hS' => ?_, ?_⟩
    rotate_left
    · go_simp
      try (with_reducible rfl)
    try go_simp
    refine hK _ ?_
    clear hK K
    refine wpFk_done ?_
    refine HQ.out _ _ ?_
    have l8 := HS.out.r8.read zX.out
    have l9 := HS.out.r9.read zY.out
    have l10 := HS.out.r10.read zX.out
    go_wp2_with (go_at_call 8; (with_reducible refine (KED.out _ HS.out.ap.tab).mono ?_); rintro e w9 ⟨rfl, hb⟩; have HZ := Lib.hid (HS.out.next hb); clear hb)
    go_ret
    exact ⟨rfl, HZ.out.ap.below⟩
end Go.Proofs.YtllabnhgiojmmaaDoor
