/-
  The walk of the document's Parse (layer 2). What it makes is new memory; nothing that was there changes.
-/
import Derived.Test.YthagpnakcffjeaaDoorRefHex
namespace Go.Proofs.YthagpnakcffjeaaDoor
open Go.RowKit
set_option linter.unusedVariables false

/-! ### the document's Parse -/
theorem index_text (s : ByteArray) (i : Nat) (h : i < s.size) (x : Int) (hx : x = (i : Int)) (w : World) : (Instr.index 9 (.string s) (.int .i64 x)).run Tryd.prog w = .ok (.int .u8 ((s[i]).toNat : Int)) w := by
  subst hx
  have h0 : (0 : Int) ≤ (i : Int) := by omega
  have e : s[i]? = some s[i] := getElem?_pos s i h
  simp [Instr.index, run_underlying Tryd.underlying9, asIntOf, e, Result.andThen]
def parZ (s : ByteArray) (k : Nat) : List Int := parL s k ++ List.replicate (32 - k) 0
theorem parZ_length (s : ByteArray) (k : Nat) (h : k ≤ 32) : (parZ s k).length = 32 := by simp [parZ, parL_length]; omega
theorem parZ_set (s : ByteArray) (k : Nat) (h : k < 32) : (parZ s k).set k (pairB s k) = parZ s (k + 1) := by
  unfold parZ
  rw [List.set_append_right _ _ (by rw [parL_length]; omega), parL_length, Nat.sub_self, show 32 - k = (32 - (k + 1)) + 1 by omega, List.replicate_succ]
  simp [parL]
theorem parZ_all (s : ByteArray) : parZ s 32 = parL s 32 := by simp [parZ]
theorem ParHead.drewN {w wr : World} {l : List Int} (H : ParHead w wr l) (n : Nat) : ParHead w (wr.drewN n) l := ⟨H.1.drewN n, H.2.1.drewN n, below_drewN H.2.2 n⟩
theorem ParHead.put {w wr : World} {l m : List Int} {k : Nat} {x : Int} (H : ParHead w wr l) (h : l.set k x = m) : ParHead w (wr.setCell ⟨w.heap.size + 1, k, none⟩ (.int .u8 x)) m :=
  ⟨H.1.far (by simp) _, by have := H.2.1.numPut k x; rwa [h] at this, H.2.2.setCell (by simp) _⟩
set_option maxHeartbeats 4000000 in
set_option maxRecDepth 100000 in
theorem refParse_any (s : ByteArray) (hs : s.size ≤ maxLen) (w : World) :
    Calls Tryd.prog 14 #[.string s] w fun ev w' => ev = .returned (.tuple #[.agg (nums .u8 (parseL s)), .bool (okS s)]) ∧ Below w.heap.size w w' := by
  have H0 := Lib.hid (ParHead.start w)
  unfold maxLen at hs
  have h6 := Lib.hid (size32p zero32 rfl)
  have h3 := nums_one .u8 zero32
  go_enter Tryd.func14, Tryd.ntmps14
  go_upto_region 1 with fail
  go_cut [4] (fun s4 wx => s4 = .pointer (some ⟨w.heap.size + 1, 0, none⟩) ∧ Hid (ParHead w wx zero32))
  case first =>
    go_wp2_with fail
    go_meet
    exact ⟨rfl, H0⟩
  case rest =>
    obtain ⟨rfl, HH⟩ := hcut
    have h1 := HH.out.1
    have h2 := HH.out.2.1
    by_cases h64 : s.size = 64
    · have HS := Lib.hid h64
      have hle : s.size ≤ 64 := by omega
      have hge : 64 ≤ s.size := by omega
      have hne : ((s.size : Int) != 64) = false := by simp; omega
      have HH2 : Hid (ParHead w wc (parZ s 0)) := HH
      clear h64 HH h1 h2
      go_wp2
      go_loopw [5, 6, 7] (fun i _ _ wr => ∃ k : Nat, k ≤ 32 ∧ i = .int .i64 k ∧ Hid (ParHead w wr (parZ s k)) ∧ Hid (okUpto s (2 * k) = true)) (fun i _ _ _ => (32 - intOf i).toNat)
      case atStart => exact ⟨0, by omega, rfl, HH2, Lib.hid rfl⟩
      case round =>
        clear HH2
        obtain ⟨k, hk, rfl, HK, HO⟩ := hrel
        by_cases hlt : k < 32
        · obtain ⟨p, hp, ep⟩ : ∃ p, Hid (p = 2 * k) ∧ 2 * (k : Int) = (p : Int) := ⟨2 * k, Lib.hid rfl, by omega⟩
          have hk1 : p < s.size := by omega
          have hk2 : p + 1 < s.size := by omega
          have hk3 : p + 1 < 64 := by omega
          have HP := hp.out
          obtain ⟨d1, hd1, hv1⟩ : ∃ d, Hid (d = digB s p) ∧ Hid (∀ W, Calls Tryd.prog 33 #[.int .u8 ((s[p]).toNat : Int)] W fun e w' => e = .returned (.int .i64 d) ∧ W = w') :=
            ⟨_, Lib.hid rfl, Lib.hid fun W => by rw [← digB_at s p hk1]; exact value_any _ W⟩
          obtain ⟨d2, hd2, hv2⟩ : ∃ d, Hid (d = digB s (p + 1)) ∧ Hid (∀ W, Calls Tryd.prog 33 #[.int .u8 ((s[p + 1]).toNat : Int)] W fun e w' => e = .returned (.int .i64 d) ∧ W = w') :=
            ⟨_, Lib.hid rfl, Lib.hid fun W => by rw [← digB_at s (p + 1) hk2]; exact value_any _ W⟩
          have b1' : -1 ≤ d1 ∧ d1 ≤ 15 := by rw [hd1.out]; exact dig_bd _
          have b2' : -1 ≤ d2 ∧ d2 ≤ 15 := by rw [hd2.out]; exact dig_bd _
          have h1 := HK.out.1
          have bad1 : d1 < 0 → Hid (okS s = false) := fun h => Lib.hid (okS_bad s p (by omega) (by rw [← hd1.out]; exact h))
          have bad2 : d2 < 0 → Hid (okS s = false) := fun h => Lib.hid (okS_bad s (p + 1) (by omega) (by rw [← hd2.out]; exact h))
          have BAD1 := Lib.hid bad1
          have BAD2 := Lib.hid bad2
          clear bad1 bad2 HP
          go_wp2
          have wp1 : IntKind.i64.wrap (p : Int) = (p : Int) := by rw [IntKind.wrap_i64]; omega
          have wp2 : IntKind.i64.wrap ((p : Int) + 1) = (p : Int) + 1 := by rw [IntKind.wrap_i64]; omega
          have wp4 : ((p : Int) + 1).toNat = p + 1 := by omega
          have wp3 : (0 : Int) ≤ (p : Int) + 1 := by omega
          have wp5 : (p : Int) + 1 < (s.size : Int) := by omega
          have x2 := fun w => index_text s (p + 1) hk2 ((p : Int) + 1) (by omega) w
          go_quiet (first
            | (go_at_call 33; (with_reducible exact still (hv1.out _)))
            | (go_at_call 33; (with_reducible exact still (hv2.out _))))
          clear wp1 wp2 wp3 wp4 wp5 x2
          by_cases n1 : d1 < 0
          · have HN := BAD1.out n1
            go_wp2_with (refine wpList_store_row rfl 24 _ _ rfl w.heap.size (nums .u8 zero32) rfl rfl 24 _ (h1.drewN _) h6.out rfl h3 ?_)
            refine bodyPost_ret (results_row2 (p := 2) (u := 3) rfl _ _ w.heap.size 24 _ (0, 0) _ rfl ((h1.drewN _).whole _) Tryd.underlying24 rfl h6.out) rfl ⟨?_, (HK.out.drewN _).off⟩
            exact ret_par (parse_none s HN.out).symm HN.out.symm
          · by_cases n2 : d2 < 0
            · have HN := BAD2.out n2
              go_wp2_with (refine wpList_store_row rfl 24 _ _ rfl w.heap.size (nums .u8 zero32) rfl rfl 24 _ (h1.drewN _) h6.out rfl h3 ?_)
              refine bodyPost_ret (results_row2 (p := 2) (u := 3) rfl _ _ w.heap.size 24 _ (0, 0) _ rfl ((h1.drewN _).whole _) Tryd.underlying24 rfl h6.out) rfl ⟨?_, (HK.out.drewN _).off⟩
              exact ret_par (parse_none s HN.out).symm HN.out.symm
            · have p1 : 0 ≤ d1 := by omega
              have p2 : 0 ≤ d2 := by omega
              have hcell := HK.out.2.1.num (i := k) (by rw [parZ_length s k hk]; omega)
              have hfree := HK.out.2.1.free k
              go_wp2
              go_roundw
              case rel =>
                refine ⟨k + 1, by omega, by go_num, Lib.hid ((HK.out.drewN _).put ?_), Lib.hid ?_⟩
                · rw [← parZ_set s k hlt]
                  unfold pairB
                  rw [← hp.out, ← hd1.out, ← hd2.out]
                · have ho := HO.out
                  rw [← hp.out] at ho
                  rw [show 2 * (k + 1) = p + 1 + 1 by rw [hp.out]; omega]
                  simp only [okUpto, ho, ← hd1.out, ← hd2.out, Bool.true_and, Bool.and_eq_true, decide_eq_true_eq]
                  exact ⟨p1, p2⟩
              case measure => simp [intOf]; omega
        · have hk9 : Hid (k = 32) := Lib.hid (by omega)
          have hrow : Hid (parZ s k = parL s 32) := Lib.hid (by rw [hk9.out]; exact parZ_all s)
          have HG := Lib.hid (okS_good s HS.out (by have h := HO.out; rw [hk9.out] at h; exact h))
          have h1 := HK.out.1
          have h2 := HK.out.2.1
          have h7 := size32p (parZ s k) (parZ_length s k hk)
          have h8 : Hid ((nums .u8 zero32).size = (nums .u8 (parZ s k)).size) := Lib.hid (by rw [nums_size, nums_size, parZ_length s k hk]; rfl)
          have h9 := nums_one .u8 (parZ s k)
          go_wp2_with (first
            | (refine wpList_load_row rfl 24 _ rfl (w.heap.size + 1) rfl 24 _ (0, 0) _ h2 Tryd.underlying24 rfl h7 ?_)
            | (refine wpList_store_row rfl 24 _ _ rfl w.heap.size _ rfl rfl 24 _ h1 h7 h8.out h9 ?_))
          refine bodyPost_ret (results_row2 (p := 2) (u := 3) rfl _ _ w.heap.size 24 _ (0, 0) _ rfl (h1.whole _) Tryd.underlying24 rfl h7) rfl ⟨?_, below_setRow HK.out.2.2 (Nat.le_refl _)⟩
          exact ret_par (by rw [hrow.out]; exact (parse_some s HG.out).symm) HG.out.symm
    · have HN := Lib.hid (okS_short s h64)
      have hne : ((s.size : Int) != 64) = true := by simp; omega
      go_wp2_with (first
        | (refine wpList_load_row rfl 24 _ rfl (w.heap.size + 1) rfl 24 _ (0, 0) _ h2 Tryd.underlying24 rfl h6.out ?_)
        | (refine wpList_store_row rfl 24 _ _ rfl w.heap.size (nums .u8 zero32) rfl rfl 24 _ h1 h6.out rfl h3 ?_))
      refine bodyPost_ret (results_row2 (p := 2) (u := 3) rfl _ _ w.heap.size 24 _ (0, 0) _ rfl (h1.whole _) Tryd.underlying24 rfl h6.out) rfl ⟨?_, HH.out.off⟩
      exact ret_par (parse_none s HN.out).symm HN.out.symm
end Go.Proofs.YthagpnakcffjeaaDoor
