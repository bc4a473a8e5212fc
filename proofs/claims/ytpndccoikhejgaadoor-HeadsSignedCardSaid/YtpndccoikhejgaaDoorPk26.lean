/-
  Several texts in one (a claim has room for 60 files): HeadSame, TreeSays, HeadSays.
-/
import Derived.Test.YtpndccoikhejgaaDoorPk08
import Derived.Test.YtpndccoikhejgaaDoorPk07
import Derived.Test.YtpndccoikhejgaaDoorPk04
import Derived.BigQuiet
import Derived.Test.YtpndccoikhejgaaDoorPk02
import Derived.Test.YtpndccoikhejgaaDoorPk14
import Derived.Test.YtpndccoikhejgaaDoorPk25
namespace Go.Proofs.YtpndccoikhejgaaDoor
open Go.RowKit Go.Great
set_option linter.unusedVariables false
set_option maxRecDepth 100000

/-- All of both is the same. -/
def sameP (x y : Sh) : Prop := (x.size = y.size ∧ x.root = y.root) ∧ x.index = y.index ∧ x.sig = y.sig ∧ x.path = y.path
instance (x y : Sh) : Decidable (sameP x y) := by unfold sameP; infer_instance
theorem sameP_iff (x y : Sh) : sameP x y ↔ x = y := ⟨fun h => Sh.ext' h.1.1 h.1.2 h.2.1 h.2.2.1 h.2.2.2, fun h => by subst h; exact ⟨⟨rfl, rfl⟩, rfl, rfl, rfl⟩⟩
theorem text_same {s t : ByteArray} (h : s.toList = t.toList) : s = t := by
  rw [ByteArray.toList_eq, ByteArray.toList_eq] at h
  exact Go.WideShapes.bytes_inj h
/-- What a function of two signed heads holds. -/
structure TwoG (w : World) (CA CB : Array Value) (A : Option Addr) (ls : List (List Int)) (B : Option Addr) (ms : List (List Int)) (W : World) : Prop where
  ra : Row W w.heap.size 34 CA
  rb : Row W (w.heap.size + 1) 34 CB
  la : HW W A ls
  lb : HW W B ms
  below : Below w.heap.size w W
theorem TwoG.next {w W W1 : World} {CA CB : Array Value} {A B : Option Addr} {ls ms : List (List Int)} (h : TwoG w CA CB A ls B ms W) (hb : Below W.heap.size W W1) : TwoG w CA CB A ls B ms W1 := ⟨h.ra.next hb, h.rb.next hb, h.la.next hb, h.lb.next hb, below_new h.below hb⟩
theorem TwoG.start {w : World} (CA CB : Array Value) {A B : Option Addr} {ls ms : List (List Int)} (hA : HW w A ls) (hB : HW w B ms) : TwoG w CA CB A ls B ms ((w.alloc (.cells CA 34)).alloc (.cells CB 34)) :=
  have hb : Below w.heap.size w ((w.alloc (.cells CA 34)).alloc (.cells CB 34)) := ((Below.refl _ _).alloc (Nat.le_refl _) _).alloc (by simp) _
  ⟨(Row.made _ _ _).alloc _, Row.made2 _ _ _ _, hA.next hb, hB.next hb, hb⟩
attribute [local go_sem ↓ high] read_at read_d neq_at neq_d
set_option maxHeartbeats 8000000 in
theorem refHeadSame_any (x y : Sh) (hx : x.fits) (hy : y.fits) (h63 : x.path.length ≤ 9223372036854775807) (h64 : y.path.length ≤ 9223372036854775807) (A B : Option Addr) (c d : Nat) (w : World) (hA : HW w A x.path) (hB : HW w B y.path) :
    Calls Tryd.prog 21 #[.agg (signedV x.size x.root x.index x.sig A x.path.length c), .agg (signedV y.size y.root y.index y.sig B y.path.length d)] w fun e w' => e = .returned (.bool (decide (sameP x y))) ∧ Below w.heap.size w w' := by
  obtain ⟨CA, hCA⟩ : ∃ C, C = signedV x.size x.root x.index x.sig A x.path.length c := ⟨_, rfl⟩
  obtain ⟨CB, hCB⟩ : ∃ C, C = signedV y.size y.root y.index y.sig B y.path.length d := ⟨_, rfl⟩
  obtain ⟨n, hn⟩ : ∃ n, Hid (n = x.path.length) := ⟨_, Lib.hid rfl⟩
  obtain ⟨m, hm⟩ : ∃ m, Hid (m = y.path.length) := ⟨_, Lib.hid rfl⟩
  obtain ⟨ls, hls⟩ : ∃ l, Hid (l = x.path) := ⟨_, Lib.hid rfl⟩
  obtain ⟨ms, hms⟩ : ∃ l, Hid (l = y.path) := ⟨_, Lib.hid rfl⟩
  obtain ⟨VA, hVA⟩ : ∃ C, Hid (C = headV x.size x.root) := ⟨_, Lib.hid rfl⟩
  obtain ⟨VB, hVB⟩ : ∃ C, Hid (C = headV y.size y.root) := ⟨_, Lib.hid rfl⟩
  have FA : Hid (∀ W, Row W w.heap.size 34 CA → (readD (.pointer (some ⟨w.heap.size, 0, none⟩))).run Tryd.prog W = .ok (.agg VA) W ∧ W.cell? ⟨w.heap.size, 0, none⟩ = some (.int .i64 x.size) ∧ W.cell? ⟨w.heap.size, 33, none⟩ = some (.int .i64 x.index) ∧ W.cell? ⟨w.heap.size, 34, none⟩ = some (.string x.sig) ∧ W.cell? ⟨w.heap.size, 35, none⟩ = some (.slice A n c)) := Lib.hid fun W h => by
    subst hCA; rw [hn.out, hVA.out]; exact ⟨signed_head h hx.1.1, signed_cells h hx.1.1⟩
  have FB : Hid (∀ W, Row W (w.heap.size + 1) 34 CB → (readD (.pointer (some ⟨w.heap.size + 1, 0, none⟩))).run Tryd.prog W = .ok (.agg VB) W ∧ W.cell? ⟨w.heap.size + 1, 0, none⟩ = some (.int .i64 y.size) ∧ W.cell? ⟨w.heap.size + 1, 33, none⟩ = some (.int .i64 y.index) ∧ W.cell? ⟨w.heap.size + 1, 34, none⟩ = some (.string y.sig) ∧ W.cell? ⟨w.heap.size + 1, 35, none⟩ = some (.slice B m d)) := Lib.hid fun W h => by
    subst hCB; rw [hm.out, hVB.out]; exact ⟨signed_head h hy.1.1, signed_cells h hy.1.1⟩
  have H0 : Hid (TwoG w CA CB A ls B ms ((w.alloc (.cells CA 34)).alloc (.cells CB 34))) := Lib.hid (by rw [hls.out, hms.out]; exact TwoG.start CA CB hA hB)
  have hl : Hid (hashes ls) := Lib.hid (by rw [hls.out]; exact hx.2)
  have hq : Hid (hashes ms) := Lib.hid (by rw [hms.out]; exact hy.2)
  have HD := fun W => neqD_head x.size y.size x.root y.root hx.1 hy.1 W
  rw [← hVA.out, ← hVB.out] at HD
  have HS : Hid (sameP x y ↔ (x.size = y.size ∧ x.root = y.root) ∧ x.index = y.index ∧ x.sig = y.sig ∧ ls = ms) := Lib.hid (by rw [hls.out, hms.out]; exact Iff.rfl)
  rw [← hn.out] at h63
  rw [← hm.out] at h64
  rw [← hCA, ← hCB]
  have HN := Lib.hid (And.intro (show n = ls.length by rw [hn.out, hls.out]) (show m = ms.length by rw [hm.out, hms.out]))
  clear hCA hCB hA hB hx hy hVA hVB hls hms hn hm
  by_cases h1 : x.size = y.size ∧ x.root = y.root
  · rw [decide_eq_true h1] at HD
    by_cases h2 : x.index = y.index
    · have d2 : (x.index != y.index) = false := by simpa using h2
      by_cases h3 : x.sig = y.sig
      · have d3 : (x.sig.toList == y.sig.toList) = true := by rw [h3]; exact beq_self_eq_true _
        by_cases hnm : n = m
        · have HNM : Hid (ls.length = ms.length) := Lib.hid (by rw [← HN.out.1, ← HN.out.2]; exact hnm)
          have HB : Hid (decide (sameP x y) = decide (ls = ms)) := Lib.hid (by
            by_cases e : ls = ms
            · rw [decide_eq_true (HS.out.2 ⟨h1, h2, h3, e⟩), decide_eq_true e]
            · rw [decide_eq_false (fun h => e (HS.out.1 h).2.2.2), decide_eq_false e])
          obtain ⟨b, hb⟩ : ∃ b, Hid (b = decide (ls = ms)) := ⟨_, Lib.hid rfl⟩
          rw [HB.out, ← hb.out]
          subst hnm
          have d4 : ((n : Int) != (n : Int)) = false := by simp
          clear h1 h2 h3 HS HB
          go_enter Tryd.func21, Tryd.ntmps21
          go_upto_region 1 with fail
          refine world_gen (fun X => TwoG w CA CB A ls B ms X) H0.out (fun X HX => ?_)
          have HX := Lib.hid HX
          obtain ⟨a0, a1, a2, a3, a4⟩ := FA.out _ HX.out.ra
          obtain ⟨b0, b1, b2, b3, b4⟩ := FB.out _ HX.out.rb
          go_upto_region 3 with fail
          clear a0 a1 a2 a3 b0 b1 b2 b3 a4 b4
          go_wp2
          go_loopw [5] (fun s5 wr => ∃ k q : Nat, k ≤ n ∧ s5 = .int .i64 (k : Int) ∧ wr = X.drewN q ∧ Hid (ls.take k = ms.take k)) (fun s5 _ => (n - intOf s5).toNat)
          case atStart => exact ⟨0, 0, by omega, rfl, rfl, Lib.hid rfl⟩
          case round =>
            obtain ⟨k, q, hk, rfl, rfl, HK⟩ := hrel
            have a4 := fun p => (FA.out (X.drewN p) (HX.out.ra.drewN p)).2.2.2.2
            have b4 := fun p => (FB.out (X.drewN p) (HX.out.rb.drewN p)).2.2.2.2
            by_cases hlt : k < n
            · obtain ⟨ad, rfl⟩ := HX.out.la.some k (by rw [← HN.out.1]; exact hlt)
              obtain ⟨bd, rfl⟩ := HX.out.lb.some k (by rw [← HN.out.2]; exact hlt)
              have hwk : IntKind.i64.wrap ((k : Int) + 1) = (k : Int) + 1 := by rw [IntKind.wrap_i64]; omega
              have hlt2 : (k : Int) < (n : Int) := by omega
              have s1 := fun p => (HL.next HX.out.la (below_drewN (Below.refl _ X) p) (Nat.le_refl _)).read hl.out k (by rw [← HN.out.1]; exact hlt)
              have s2 := fun p => (HL.next HX.out.lb (below_drewN (Below.refl _ X) p) (Nat.le_refl _)).read hq.out k (by rw [← HN.out.2]; exact hlt)
              obtain ⟨l, hll⟩ : ∃ l, Hid (l = ls.getD k []) := ⟨_, Lib.hid rfl⟩
              obtain ⟨l2, hl2⟩ : ∃ l, Hid (l = ms.getD k []) := ⟨_, Lib.hid rfl⟩
              rw [← hll.out] at s1
              rw [← hl2.out] at s2
              have i1 := hashes_at hl.out k (by rw [← HN.out.1]; exact hlt)
              have i2 := hashes_at hq.out k (by rw [← HN.out.2]; exact hlt)
              rw [← hll.out] at i1
              rw [← hl2.out] at i2
              by_cases he : l = l2
              · have N1 := fun W => (neqAt_hash l l2 i1.1 i2.1 i1.2 i2.2 W).trans (by rw [decide_eq_true he]; try rfl)
                have HK2 : Hid (ls.take (k + 1) = ms.take (k + 1)) := Lib.hid (take_same HK.out (by rw [← HN.out.1]; exact hlt) (by rw [← HN.out.2]; exact hlt) (by rw [← hll.out, ← hl2.out]; exact he))
                clear i1 i2 he
                go_wp2
                go_quiet (fail)
                go_wp2
                go_roundw
                case rel => exact ⟨k + 1, _, by omega, by go_num, rfl, HK2⟩
                case measure => simp [intOf]; omega
              · have N1 := fun W => (neqAt_hash l l2 i1.1 i2.1 i1.2 i2.2 W).trans (by rw [decide_eq_false he]; try rfl)
                have HE : Hid (b = false) := Lib.hid (by rw [hb.out]; exact decide_eq_false (same_not (by rw [← hll.out, ← hl2.out]; exact he)))
                clear i1 i2 he
                go_wp2
                go_quiet (fail)
                go_wp2
                go_ret
                exact ⟨by rw [HE.out]; rfl, below_drewN (below_drewN HX.out.below _) _⟩
            · have hk9 : Hid (k = n) := Lib.hid (by omega)
              have hlt2 : ¬ (k : Int) < (n : Int) := by omega
              have HE : Hid (b = true) := Lib.hid (by rw [hb.out]; exact decide_eq_true (same_all (by have := HK.out; rw [hk9.out, HN.out.1] at this; exact this) HNM.out))
              go_wp2
              go_ret
              exact ⟨by rw [HE.out]; rfl, below_drewN HX.out.below _⟩
        · have d4 : ((n : Int) != (m : Int)) = true := by simp; omega
          have HB : Hid (decide (sameP x y) = false) := Lib.hid (decide_eq_false (fun h => hnm (by rw [HN.out.1, HN.out.2, (HS.out.1 h).2.2.2])))
          rw [HB.out]
          clear h1 h2 h3 HS HB
          go_enter Tryd.func21, Tryd.ntmps21
          go_upto_region 1 with fail
          refine world_gen (fun X => TwoG w CA CB A ls B ms X) H0.out (fun X HX => ?_)
          have HX := Lib.hid HX
          obtain ⟨a0, a1, a2, a3, a4⟩ := FA.out _ HX.out.ra
          obtain ⟨b0, b1, b2, b3, b4⟩ := FB.out _ HX.out.rb
          go_wp2
          go_ret
          exact ⟨rfl, HX.out.below⟩
      · have d3 : (x.sig.toList == y.sig.toList) = false := by
          have h4 : ¬ x.sig.toList = y.sig.toList := fun h => h3 (text_same h)
          simpa using h4
        have HB : Hid (decide (sameP x y) = false) := Lib.hid (decide_eq_false (fun h => h3 (HS.out.1 h).2.2.1))
        rw [HB.out]
        clear h1 h2 h3 HS HB
        go_enter Tryd.func21, Tryd.ntmps21
        go_upto_region 1 with fail
        refine world_gen (fun X => TwoG w CA CB A ls B ms X) H0.out (fun X HX => ?_)
        have HX := Lib.hid HX
        obtain ⟨a0, a1, a2, a3, a4⟩ := FA.out _ HX.out.ra
        obtain ⟨b0, b1, b2, b3, b4⟩ := FB.out _ HX.out.rb
        go_wp2
        go_ret
        exact ⟨rfl, HX.out.below⟩
    · have d2 : (x.index != y.index) = true := by simpa using h2
      have HB : Hid (decide (sameP x y) = false) := Lib.hid (decide_eq_false (fun h => h2 (HS.out.1 h).2.1))
      rw [HB.out]
      clear h1 h2 HS HB
      go_enter Tryd.func21, Tryd.ntmps21
      go_upto_region 1 with fail
      refine world_gen (fun X => TwoG w CA CB A ls B ms X) H0.out (fun X HX => ?_)
      have HX := Lib.hid HX
      obtain ⟨a0, a1, a2, a3, a4⟩ := FA.out _ HX.out.ra
      obtain ⟨b0, b1, b2, b3, b4⟩ := FB.out _ HX.out.rb
      go_wp2
      go_ret
      exact ⟨rfl, HX.out.below⟩
  · rw [decide_eq_false h1] at HD
    have HB : Hid (decide (sameP x y) = false) := Lib.hid (decide_eq_false (fun h => h1 (HS.out.1 h).1))
    rw [HB.out]
    clear h1 HS HB
    go_enter Tryd.func21, Tryd.ntmps21
    go_upto_region 1 with fail
    refine world_gen (fun X => TwoG w CA CB A ls B ms X) H0.out (fun X HX => ?_)
    have HX := Lib.hid HX
    obtain ⟨a0, a1, a2, a3, a4⟩ := FA.out _ HX.out.ra
    obtain ⟨b0, b1, b2, b3, b4⟩ := FB.out _ HX.out.rb
    go_wp2
    go_ret
    exact ⟨rfl, HX.out.below⟩
attribute [local go_sem ↓ high] read_s eq_d
set_option maxHeartbeats 4000000 in
theorem lawHeadSame_any (x y : Sh) (hx : x.fits) (hy : y.fits) (h63 : x.path.length ≤ 9223372036854775807) (h64 : y.path.length ≤ 9223372036854775807) (A B : Option Addr) (c d : Nat) (w : World) (hA : HW w A x.path) (hB : HW w B y.path) :
    Calls Tryd.prog 24 #[.agg (signedV x.size x.root x.index x.sig A x.path.length c), .agg (signedV y.size y.root y.index y.sig B y.path.length d)] w fun e w' => e = .returned (.bool (decide (sameP x y))) ∧ Below w.heap.size w w' := by
  obtain ⟨CA, hCA⟩ : ∃ C, C = signedV x.size x.root x.index x.sig A x.path.length c := ⟨_, rfl⟩
  obtain ⟨CB, hCB⟩ : ∃ C, C = signedV y.size y.root y.index y.sig B y.path.length d := ⟨_, rfl⟩
  obtain ⟨n, hn⟩ : ∃ n, Hid (n = x.path.length) := ⟨_, Lib.hid rfl⟩
  obtain ⟨m, hm⟩ : ∃ m, Hid (m = y.path.length) := ⟨_, Lib.hid rfl⟩
  obtain ⟨VA, hVA⟩ : ∃ C, Hid (C = headV x.size x.root) := ⟨_, Lib.hid rfl⟩
  obtain ⟨VB, hVB⟩ : ∃ C, Hid (C = headV y.size y.root) := ⟨_, Lib.hid rfl⟩
  have FA : Hid (∀ W, Row W w.heap.size 34 CA → (readD (.pointer (some ⟨w.heap.size, 0, none⟩))).run Tryd.prog W = .ok (.agg VA) W ∧ (readS (.pointer (some ⟨w.heap.size, 33, none⟩))).run Tryd.prog W = .ok (.agg (sealV x.index x.sig A n c)) W) := Lib.hid fun W h => by
    subst hCA; rw [hn.out, hVA.out]; exact ⟨signed_head h hx.1.1, signed_seal h hx.1.1⟩
  have FB : Hid (∀ W, Row W (w.heap.size + 1) 34 CB → (readD (.pointer (some ⟨w.heap.size + 1, 0, none⟩))).run Tryd.prog W = .ok (.agg VB) W ∧ (readS (.pointer (some ⟨w.heap.size + 1, 33, none⟩))).run Tryd.prog W = .ok (.agg (sealV y.index y.sig B m d)) W) := Lib.hid fun W h => by
    subst hCB; rw [hm.out, hVB.out]; exact ⟨signed_head h hy.1.1, signed_seal h hy.1.1⟩
  obtain ⟨b, hb⟩ : ∃ b, Hid (b = decide (x.index = y.index ∧ x.sig = y.sig ∧ x.path = y.path)) := ⟨_, Lib.hid rfl⟩
  have X1 : Hid (∀ W, Below w.heap.size w W → Calls Tryd.prog 49 #[.agg (sealV x.index x.sig A n c), .agg (sealV y.index y.sig B m d)] W fun e w' => e = .returned (.bool b) ∧ Below W.heap.size W w') := Lib.hid fun W hW => by
    rw [hn.out, hm.out, hb.out]; exact sealSame_any x.index y.index x.sig y.sig x.path y.path hx.2 hy.2 h63 h64 A B c d W (hA.next hW) (hB.next hW)
  have H0 : Hid (TwoG w CA CB A x.path B y.path ((w.alloc (.cells CA 34)).alloc (.cells CB 34))) := Lib.hid (TwoG.start CA CB hA hB)
  have HD := fun W => eqD_head x.size y.size x.root y.root hx.1 hy.1 W
  rw [← hVA.out, ← hVB.out] at HD
  rw [← hCA, ← hCB]
  clear hCA hCB hA hB hx hy hVA hVB hn hm h63 h64
  by_cases h1 : x.size = y.size ∧ x.root = y.root
  · rw [decide_eq_true h1] at HD
    have HB : Hid (decide (sameP x y) = b) := Lib.hid (by
      rw [hb.out]
      by_cases e : x.index = y.index ∧ x.sig = y.sig ∧ x.path = y.path
      · rw [decide_eq_true (show sameP x y from ⟨h1, e⟩), decide_eq_true e]
      · rw [decide_eq_false (fun h : sameP x y => e h.2), decide_eq_false e])
    rw [HB.out]
    clear h1 HB hb
    go_enter Tryd.func24, Tryd.ntmps24
    go_upto_region 1 with fail
    refine world_gen (fun X => TwoG w CA CB A x.path B y.path X) H0.out (fun X HX => ?_)
    have HX := Lib.hid HX
    obtain ⟨a0, a1⟩ := FA.out _ HX.out.ra
    obtain ⟨b0, b1⟩ := FB.out _ HX.out.rb
    go_wp2_with (go_at_call 49; (with_reducible refine (X1.out _ HX.out.below).mono ?_); rintro e w1 ⟨rfl, hb⟩; have HZ := Lib.hid (HX.out.next hb); clear hb)
    go_ret
    exact ⟨rfl, HZ.out.below⟩
  · rw [decide_eq_false h1] at HD
    have HB : Hid (decide (sameP x y) = false) := Lib.hid (decide_eq_false (fun h => h1 h.1))
    rw [HB.out]
    clear h1 HB hb
    go_enter Tryd.func24, Tryd.ntmps24
    go_upto_region 1 with fail
    refine world_gen (fun X => TwoG w CA CB A x.path B y.path X) H0.out (fun X HX => ?_)
    have HX := Lib.hid HX
    obtain ⟨a0, a1⟩ := FA.out _ HX.out.ra
    obtain ⟨b0, b1⟩ := FB.out _ HX.out.rb
    go_wp2
    go_ret
    exact ⟨rfl, HX.out.below⟩
end Go.Proofs.YtpndccoikhejgaaDoor
namespace Go.Proofs.YtpndccoikhejgaaDoor
open Go.RowKit Go.Great
set_option linter.unusedVariables false
set_option maxRecDepth 100000

structure TreeSays (TR : World → Value → ByteArray → Prop) : Prop where
  next : ∀ {W W1 : World} {v : Value} {seed : ByteArray}, TR W v seed → Below W.heap.size W W1 → TR W1 v seed
  new_ : ∀ (seed : ByteArray) (W : World), Tab W → seed.size ≤ 100000 →
    Calls Tryd.prog 25 #[.string seed] W fun e w' => ∃ v, e = .returned v ∧ TR w' v seed ∧ Below W.heap.size W w'
  root : ∀ (seed : ByteArray) (v : Value) (W : World), Tab W → TR W v seed → seed.size ≤ 100000 →
    Calls Tryd.prog 27 #[v] W fun e w' => e = .returned (.agg (nums .u8 (rootF seed))) ∧ Below W.heap.size W w'
  sign : ∀ (seed : ByteArray) (v : Value) (i : Int) (d : List Int) (W : World), Tab W → TR W v seed → seed.size ≤ 100000 → num64 i → d.length = 32 ∧ bytes d →
    Calls Tryd.prog 26 #[v, .int .i64 i, .agg (nums .u8 d)] W (GivesS W (sealF seed i d))
  ver : ∀ (root d : List Int) (i : Int) (s : ByteArray) (p : List (List Int)) (A : Option Addr) (c : Nat) (W : World), Tab W → root.length = 32 ∧ bytes root → d.length = 32 ∧ bytes d → num64 i → s.size ≤ maxLen → hashes p → HW W A p → p.length ≤ c → c ≤ maxLen →
    Calls Tryd.prog 41 #[.agg (nums .u8 root), .agg (nums .u8 d), .agg (sealV i s A p.length c)] W fun e w' => e = .returned (.int .i64 (verF root d i s p)) ∧ Below W.heap.size W w'
/-- What they say of a tree that is none. -/
def NoneSays (v : Value) (OK : World → Prop) : Prop := ∀ (i : Int) (d : List Int) (W : World), OK W → num64 i → d.length = 32 ∧ bytes d →
  Calls Tryd.prog 26 #[v, .int .i64 i, .agg (nums .u8 d)] W (GivesS W ((0, ⟨#[]⟩, []), 1)) ∧
  Calls Tryd.prog 27 #[v] W fun e w' => e = .returned (.agg (nums .u8 zeroL)) ∧ Below W.heap.size W w'
end Go.Proofs.YtpndccoikhejgaaDoor
namespace Go.Proofs.YtpndccoikhejgaaDoor
open Go.RowKit Go.Great
set_option linter.unusedVariables false
set_option maxRecDepth 100000

/-- A signed head that is handed over: its parts fit, its path lies in memory. -/
structure HeadIn (W : World) (x : Sh) (A : Option Addr) (c : Nat) : Prop where
  fits : x.fits
  size : num64 x.size
  index : num64 x.index
  sig : x.sig.size ≤ maxLen
  lst : HW W A x.path
  len : x.path.length ≤ c
  cap : c ≤ maxLen
theorem HeadIn.next {W W1 : World} {x : Sh} {A : Option Addr} {c : Nat} (h : HeadIn W x A c) (hb : Below W.heap.size W W1) : HeadIn W1 x A c := ⟨h.fits, h.size, h.index, h.sig, h.lst.next hb, h.len, h.cap⟩
/-- Its cells, its path at A. -/
def shV (x : Sh) (A : Option Addr) (c : Nat) : Array Value := signedV x.size x.root x.index x.sig A x.path.length c
structure HeadSays : Prop where
  digest : ∀ (s : Int) (r : List Int) (W : World), Tab W → num64 s → r.length = 32 ∧ bytes r →
    Calls Tryd.prog 12 #[.agg (headV s r)] W fun e w' => e = .returned (.agg (nums .u8 (digF s r))) ∧ Below W.heap.size W w'
  valid : ∀ (x : Sh) (A : Option Addr) (c : Nat) (W : World), Tab W → HeadIn W x A c →
    Calls Tryd.prog 14 #[.agg (shV x A c)] W fun e w' => e = .returned (.bool (decide x.ok)) ∧ Below W.heap.size W w'
  same : ∀ (x y : Sh) (A B : Option Addr) (c d : Nat) (W : World), Tab W → HeadIn W x A c → HeadIn W y B d →
    Calls Tryd.prog 20 #[.agg (shV x A c), .agg (shV y B d)] W fun e w' => e = .returned (.bool (decide (sameP x y))) ∧ Below W.heap.size W w'
  put : ∀ (x : Sh) (A : Option Addr) (c : Nat) (W : World), Tab W → HeadIn W x A c →
    Calls Tryd.prog 10 #[.agg (shV x A c)] W fun e w' => e = .returned (.tuple #[.string (putF x).1, .int .i64 (putF x).2]) ∧ Below W.heap.size W w'
  get : ∀ (s : ByteArray) (W : World), Tab W → s.size ≤ maxLen → Calls Tryd.prog 22 #[.string s] W (GivesG W (getF s))
  check : ∀ (key : List Int) (x : Sh) (A : Option Addr) (c : Nat) (W : World), Tab W → key.length = 32 ∧ bytes key → HeadIn W x A c →
    Calls Tryd.prog 16 #[.agg (nums .u8 key), .agg (shV x A c)] W fun e w' => e = .returned (.int .i64 (chkF key x)) ∧ Below W.heap.size W w'
  order : ∀ (s s' : Int) (r r' : List Int) (W : World), Tab W → num64 s → num64 s' → r.length = 32 ∧ bytes r → r'.length = 32 ∧ bytes r' →
    Calls Tryd.prog 18 #[.agg (headV s r), .agg (headV s' r')] W fun e w' => e = .returned (.int .i64 (ordF s r s' r')) ∧ Below W.heap.size W w'
end Go.Proofs.YtpndccoikhejgaaDoor
