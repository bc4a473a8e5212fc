/-
  HeadSmall.
-/
import Derived.Test.YtpndccoikhejgaaDoorPk24
import Derived.Test.YtpndccoikhejgaaDoorPk04
import Derived.Test.YtpndccoikhejgaaDoorPk28
namespace Go.Proofs.YtpndccoikhejgaaDoor
open Go.RowKit Go.Great
set_option linter.unusedVariables false
set_option maxRecDepth 100000

/-- What a function of one seal holds. -/
def OneS (w wr : World) (C : Array Value) : Prop := Row wr w.heap.size 32 C ∧ Below w.heap.size w wr
theorem OneS.start (w : World) (C : Array Value) : OneS w (w.alloc (.cells C 32)) C := ⟨Row.made _ _ _, (Below.refl _ _).alloc (Nat.le_refl _) _⟩
def mayP (i : Int) (u : ByteArray) (n : Nat) : Prop := (0 ≤ i ∧ i ≤ 7) ∧ u.size = 16384 ∧ n = 3
instance (i : Int) (u : ByteArray) (n : Nat) : Decidable (mayP i u n) := by unfold mayP; infer_instance
set_option maxHeartbeats 4000000 in
theorem mayBe_any (i : Int) (u : ByteArray) (A : Option Addr) (n c : Nat) (w : World) :
    Calls Tryd.prog 40 #[.agg (sealV i u A n c)] w fun e w' => e = .returned (.bool (decide (mayP i u n))) ∧ Below w.heap.size w w' := by
  obtain ⟨C, hC⟩ : ∃ C, C = sealV i u A n c := ⟨_, rfl⟩
  have CF : Hid (∀ W g, Row W g 32 C → W.cell? ⟨g, 0, none⟩ = some (.int .i64 i) ∧ W.cell? ⟨g, 1, none⟩ = some (.string u) ∧ W.cell? ⟨g, 2, none⟩ = some (.slice A n c)) := Lib.hid fun W g h => by subst hC; exact ⟨h.cell 0, h.cell 1, h.cell 2⟩
  have H0 := Lib.hid (OneS.start w C)
  rw [← hC]
  have HK : Hid (mayP i u n ↔ (0 ≤ i ∧ i ≤ 7) ∧ u.size = 16384 ∧ n = 3) := Lib.hid Iff.rfl
  clear hC
  by_cases h1 : 0 ≤ i
  · have b1 : decide (0 ≤ i) = true := decide_eq_true h1
    by_cases h2 : i < 8
    · have b2 : decide (i < 8) = true := decide_eq_true h2
      by_cases h3 : u.size = 16384
      · have b3 : ((u.size : Int) == 16384) = true := by simp; omega
        by_cases h4 : n = 3
        · have b4 : ((n : Int) == 3) = true := by simp; omega
          have d9 : decide (mayP i u n) = true := decide_eq_true (HK.out.2 ⟨⟨h1, by omega⟩, h3, h4⟩)
          rw [d9]
          clear HK h1 h2 h3 h4
          go_enter Tryd.func40, Tryd.ntmps40
          go_upto_region 1 with fail
          refine world_gen (fun X => OneS w X C) H0.out (fun X HX => ?_)
          have HX := Lib.hid HX
          obtain ⟨c0, c1, c2⟩ := CF.out _ _ HX.out.1
          go_wp2
          go_ret
          exact ⟨rfl, HX.out.2⟩
        · have b4 : ((n : Int) == 3) = false := by simp; omega
          have d9 : decide (mayP i u n) = false := decide_eq_false (fun ho => by have h := HK.out.1 ho; exact h4 h.2.2)
          rw [d9]
          clear HK h1 h2 h3 h4
          go_enter Tryd.func40, Tryd.ntmps40
          go_upto_region 1 with fail
          refine world_gen (fun X => OneS w X C) H0.out (fun X HX => ?_)
          have HX := Lib.hid HX
          obtain ⟨c0, c1, c2⟩ := CF.out _ _ HX.out.1
          go_wp2
          go_ret
          exact ⟨rfl, HX.out.2⟩
      · have b3 : ((u.size : Int) == 16384) = false := by simp; omega
        have d9 : decide (mayP i u n) = false := decide_eq_false (fun ho => by have h := HK.out.1 ho; exact h3 h.2.1)
        rw [d9]
        clear HK h1 h2 h3
        go_enter Tryd.func40, Tryd.ntmps40
        go_upto_region 1 with fail
        refine world_gen (fun X => OneS w X C) H0.out (fun X HX => ?_)
        have HX := Lib.hid HX
        obtain ⟨c0, c1, c2⟩ := CF.out _ _ HX.out.1
        go_wp2
        go_ret
        exact ⟨rfl, HX.out.2⟩
    · have b2 : decide (i < 8) = false := decide_eq_false h2
      have d9 : decide (mayP i u n) = false := decide_eq_false (fun ho => by have h := HK.out.1 ho; exact h2 (by have := h.1.2; omega))
      rw [d9]
      clear HK h1 h2
      go_enter Tryd.func40, Tryd.ntmps40
      go_upto_region 1 with fail
      refine world_gen (fun X => OneS w X C) H0.out (fun X HX => ?_)
      have HX := Lib.hid HX
      obtain ⟨c0, c1, c2⟩ := CF.out _ _ HX.out.1
      go_wp2
      go_ret
      exact ⟨rfl, HX.out.2⟩
  · have b1 : decide (0 ≤ i) = false := decide_eq_false h1
    have d9 : decide (mayP i u n) = false := decide_eq_false (fun ho => by have h := HK.out.1 ho; exact h1 h.1.1)
    rw [d9]
    clear HK h1
    go_enter Tryd.func40, Tryd.ntmps40
    go_upto_region 1 with fail
    refine world_gen (fun X => OneS w X C) H0.out (fun X HX => ?_)
    have HX := Lib.hid HX
    obtain ⟨c0, c1, c2⟩ := CF.out _ _ HX.out.1
    go_wp2
    go_ret
    exact ⟨rfl, HX.out.2⟩
attribute [local go_sem ↓ high] read_s
set_option maxHeartbeats 4000000 in
theorem headValid_any (x : Sh) (hr : x.root.length = 32) (A : Option Addr) (c : Nat) (w : World) :
    Calls Tryd.prog 14 #[.agg (signedV x.size x.root x.index x.sig A x.path.length c)] w fun e w' => e = .returned (.bool (decide x.ok)) ∧ Below w.heap.size w w' := by
  obtain ⟨C, hC⟩ : ∃ C, C = signedV x.size x.root x.index x.sig A x.path.length c := ⟨_, rfl⟩
  obtain ⟨n, hn⟩ : ∃ n, Hid (n = x.path.length) := ⟨_, Lib.hid rfl⟩
  obtain ⟨b, hb⟩ : ∃ b, Hid (b = decide (mayP x.index x.sig x.path.length)) := ⟨_, Lib.hid rfl⟩
  have CF : Hid (∀ W g, Row W g 34 C → W.cell? ⟨g, 0, none⟩ = some (.int .i64 x.size) ∧ (readS (.pointer (some ⟨g, 33, none⟩))).run Tryd.prog W = .ok (.agg (sealV x.index x.sig A n c)) W) := Lib.hid fun W g h => by subst hC; rw [hn.out]; exact ⟨(signed_cells h hr).1, signed_seal h hr⟩
  have XM : Hid (∀ W, Calls Tryd.prog 40 #[.agg (sealV x.index x.sig A n c)] W fun e w' => e = .returned (.bool b) ∧ Below W.heap.size W w') := Lib.hid fun W => by rw [hb.out, hn.out]; exact mayBe_any _ _ _ _ _ W
  have H0 := Lib.hid (OneG.start w C)
  rw [← hC]
  clear hC
  by_cases h1 : 0 ≤ x.size
  · have b1 : decide (0 ≤ x.size) = true := decide_eq_true h1
    by_cases h2 : x.size ≤ 4096
    · have b2 : decide (x.size ≤ 4096) = true := decide_eq_true h2
      have d9 : decide x.ok = b := by
        rw [hb.out]
        by_cases hm : mayP x.index x.sig x.path.length
        · rw [decide_eq_true (show x.ok from ⟨⟨h1, h2⟩, hm⟩), decide_eq_true hm]
        · rw [decide_eq_false (fun ho : x.ok => hm ho.2), decide_eq_false hm]
      rw [d9]
      clear d9 h1 h2 hb hn
      go_enter Tryd.func14, Tryd.ntmps14
      go_upto_region 1 with fail
      refine world_gen (fun X => OneG w X C) H0.out (fun X HX => ?_)
      have HX := Lib.hid HX
      obtain ⟨c0, l1⟩ := CF.out _ _ HX.out.1
      go_wp2_with (go_at_call 40; (with_reducible refine (XM.out _).mono ?_); rintro e w1 ⟨rfl, hb⟩; have H1 := Lib.hid (below_new HX.out.2 hb); clear hb)
      go_ret
      exact ⟨rfl, H1.out⟩
    · have b2 : decide (x.size ≤ 4096) = false := decide_eq_false h2
      have d9 : decide x.ok = false := decide_eq_false (fun ho => h2 ho.1.2)
      rw [d9]
      clear d9 h1 h2 hb hn
      go_enter Tryd.func14, Tryd.ntmps14
      go_upto_region 1 with fail
      refine world_gen (fun X => OneG w X C) H0.out (fun X HX => ?_)
      have HX := Lib.hid HX
      obtain ⟨c0, l1⟩ := CF.out _ _ HX.out.1
      go_wp2
      go_ret
      exact ⟨rfl, HX.out.2⟩
  · have b1 : decide (0 ≤ x.size) = false := decide_eq_false h1
    have d9 : decide x.ok = false := decide_eq_false (fun ho => h1 ho.1.1)
    rw [d9]
    clear d9 h1 hb hn
    go_enter Tryd.func14, Tryd.ntmps14
    go_upto_region 1 with fail
    refine world_gen (fun X => OneG w X C) H0.out (fun X HX => ?_)
    have HX := Lib.hid HX
    obtain ⟨c0, l1⟩ := CF.out _ _ HX.out.1
    go_wp2
    go_ret
    exact ⟨rfl, HX.out.2⟩
set_option maxHeartbeats 4000000 in
theorem headNumber_any (s : ByteArray) (hs : s.size ≤ maxLen) (w : World) :
    Calls Tryd.prog 66 #[.string s] w fun e w' => e = .returned (.tuple #[.int .i64 (clampI (numA s)), .string (numB s)]) ∧ Below w.heap.size w w' := by
  obtain ⟨n, hn⟩ : ∃ n, Hid (n = numA s) := ⟨_, Lib.hid rfl⟩
  obtain ⟨t, ht⟩ : ∃ n, Hid (n = numB s) := ⟨_, Lib.hid rfl⟩
  obtain ⟨o, ho⟩ : ∃ n, Hid (n = numO s) := ⟨_, Lib.hid rfl⟩
  have X1 : Hid (∀ W, Calls Tryd.prog 88 #[.string s] W fun e w' => e = .returned (.tuple #[.int .u64 (n : Int), .string t, .bool o]) ∧ Below W.heap.size W w') := Lib.hid fun W => by
    have := (read_any s hs W).mono (fun e w' h => (⟨h.1, by obtain ⟨k, rfl⟩ := h.2; exact below_drewN (Below.refl _ _) k⟩ : e = .returned (readV s) ∧ Below W.heap.size W w'))
    rw [readV_is] at this
    rw [hn.out, ht.out, ho.out]; exact this
  rw [← hn.out, ← ht.out]
  have hlt : n < 18446744073709551616 := by rw [hn.out]; exact numA_lt s
  by_cases h1 : n ≤ 9223372036854775807
  · have e1 : clampI n = (n : Int) := by unfold clampI; rw [if_pos h1]
    have e2 : min (n : Int) 9223372036854775807 = (n : Int) := by omega
    have e2b : decide ((n : Int) ≤ 9223372036854775807) = true := decide_eq_true (by omega)
    have e2d : ¬ (9223372036854775807 : Int) < (n : Int) := by omega
    have e2c : decide ((9223372036854775807 : Int) < (n : Int)) = false := decide_eq_false e2d
    have e3 : IntKind.i64.wrap (n : Int) = (n : Int) := by rw [IntKind.wrap_i64]; omega
    have e4 : wrap64 (n : Int) = (n : Int) := by unfold wrap64; omega
    rw [e1]
    clear hn ht ho hlt
    go_enter Tryd.func66, Tryd.ntmps66
    go_wp2_with (go_at_call 88; (with_reducible refine (X1.out _).mono ?_); rintro e w1 ⟨rfl, hb⟩; have H1 := Lib.hid hb; clear hb)
    go_ret2
    exact ⟨rfl, H1.out⟩
  · have e1 : clampI n = 9223372036854775807 := by unfold clampI; rw [if_neg h1]
    have e2 : min (n : Int) 9223372036854775807 = 9223372036854775807 := by omega
    have e2b : decide ((n : Int) ≤ 9223372036854775807) = false := decide_eq_false (by omega)
    have e2d : (9223372036854775807 : Int) < (n : Int) := by omega
    have e2c : decide ((9223372036854775807 : Int) < (n : Int)) = true := decide_eq_true e2d
    rw [e1]
    clear hn ht ho hlt
    go_enter Tryd.func66, Tryd.ntmps66
    go_wp2_with (go_at_call 88; (with_reducible refine (X1.out _).mono ?_); rintro e w1 ⟨rfl, hb⟩; have H1 := Lib.hid hb; clear hb)
    go_ret2
    exact ⟨rfl, H1.out⟩
attribute [local go_sem ↓ high] read_at write_at read_d eq_at neq_at
set_option maxHeartbeats 4000000 in
theorem headOrder_any (s s' : Int) (r r' : List Int) (hr : r.length = 32 ∧ bytes r) (hr' : r'.length = 32 ∧ bytes r') (w : World) :
    Calls Tryd.prog 18 #[.agg (headV s r), .agg (headV s' r')] w fun e w' => e = .returned (.int .i64 (ordF s r s' r')) ∧ Below w.heap.size w w' := by
  obtain ⟨HA, hHA⟩ : ∃ C, C = headV s r := ⟨_, rfl⟩
  obtain ⟨HB, hHB⟩ : ∃ C, C = headV s' r' := ⟨_, rfl⟩
  obtain ⟨R, hR⟩ : ∃ C, Hid (C = nums .u8 r) := ⟨_, Lib.hid rfl⟩
  obtain ⟨R', hR'⟩ : ∃ C, Hid (C = nums .u8 r') := ⟨_, Lib.hid rfl⟩
  have CA : Hid (∀ W, Row W w.heap.size 25 HA → W.cell? ⟨w.heap.size, 0, none⟩ = some (.int .i64 s) ∧ (readAt (.pointer (some ⟨w.heap.size, 1, none⟩))).run Tryd.prog W = .ok (.agg R) W) := Lib.hid fun W h => by subst hHA; exact ⟨head_cells h, by rw [hR.out]; exact head_root h hr.1⟩
  have CB : Hid (∀ W, Row W (w.heap.size + 1) 25 HB → W.cell? ⟨w.heap.size + 1, 0, none⟩ = some (.int .i64 s') ∧ (readAt (.pointer (some ⟨w.heap.size + 1, 1, none⟩))).run Tryd.prog W = .ok (.agg R') W) := Lib.hid fun W h => by subst hHB; exact ⟨head_cells h, by rw [hR'.out]; exact head_root h hr'.1⟩
  have H0 := Lib.hid (TwoD.start w HA HB)
  rw [← hHA, ← hHB]
  clear hHA hHB
  by_cases h1 : s < s'
  · have d1 : decide (s < s') = true := decide_eq_true h1
    have HV : ordF s r s' r' = 0 := by unfold ordF; rw [if_pos h1]
    rw [HV]
    clear hR hR' hr hr' HV
    go_enter Tryd.func18, Tryd.ntmps18
    go_upto_region 1 with fail
    refine world_gen (fun X => TwoD w X HA HB) H0.out (fun X HX => ?_)
    have HX := Lib.hid HX
    obtain ⟨c0, l0⟩ := CA.out _ HX.out.1
    obtain ⟨c1, l1⟩ := CB.out _ HX.out.2.1
    go_wp2
    go_ret
    exact ⟨rfl, HX.out.2.2⟩
  · have d1 : decide (s < s') = false := decide_eq_false h1
    by_cases h2 : s' < s
    · have d2 : decide (s' < s) = true := decide_eq_true h2
      have HV : ordF s r s' r' = 2 := by unfold ordF; rw [if_neg h1, if_pos h2]
      rw [HV]
      clear hR hR' hr hr' HV
      go_enter Tryd.func18, Tryd.ntmps18
      go_upto_region 1 with fail
      refine world_gen (fun X => TwoD w X HA HB) H0.out (fun X HX => ?_)
      have HX := Lib.hid HX
      obtain ⟨c0, l0⟩ := CA.out _ HX.out.1
      obtain ⟨c1, l1⟩ := CB.out _ HX.out.2.1
      go_wp2
      go_ret
      exact ⟨rfl, HX.out.2.2⟩
    · have d2 : decide (s' < s) = false := decide_eq_false h2
      by_cases h3 : r = r'
      · have NR : ∀ W, (eqAt (.agg R) (.agg R')).run Tryd.prog W = .ok (.bool true) W := fun W => by rw [hR.out, hR'.out, eqAt_hash r r' hr.1 hr'.1 hr.2 hr'.2 W, decide_eq_true h3]
        have HV : ordF s r s' r' = 1 := by unfold ordF; rw [if_neg h1, if_neg h2, if_pos h3]
        rw [HV]
        clear hR hR' hr hr' h3 HV
        go_enter Tryd.func18, Tryd.ntmps18
        go_upto_region 1 with fail
        refine world_gen (fun X => TwoD w X HA HB) H0.out (fun X HX => ?_)
        have HX := Lib.hid HX
        obtain ⟨c0, l0⟩ := CA.out _ HX.out.1
        obtain ⟨c1, l1⟩ := CB.out _ HX.out.2.1
        go_wp2
        go_ret
        exact ⟨rfl, HX.out.2.2⟩
      · have NR : ∀ W, (eqAt (.agg R) (.agg R')).run Tryd.prog W = .ok (.bool false) W := fun W => by rw [hR.out, hR'.out, eqAt_hash r r' hr.1 hr'.1 hr.2 hr'.2 W, decide_eq_false h3]
        have HV : ordF s r s' r' = 3 := by unfold ordF; rw [if_neg h1, if_neg h2, if_neg h3]
        rw [HV]
        clear hR hR' hr hr' h3 HV
        go_enter Tryd.func18, Tryd.ntmps18
        go_upto_region 1 with fail
        refine world_gen (fun X => TwoD w X HA HB) H0.out (fun X HX => ?_)
        have HX := Lib.hid HX
        obtain ⟨c0, l0⟩ := CA.out _ HX.out.1
        obtain ⟨c1, l1⟩ := CB.out _ HX.out.2.1
        go_wp2
        go_ret
        exact ⟨rfl, HX.out.2.2⟩
end Go.Proofs.YtpndccoikhejgaaDoor
