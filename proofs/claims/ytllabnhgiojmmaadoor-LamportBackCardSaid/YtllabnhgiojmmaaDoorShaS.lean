/-
  The walks of layer 2 (sha): a block's numbers ('spread').
-/
import Derived.Test.YtllabnhgiojmmaaDoorShaMath
import Derived.BigRegion
namespace Go.Proofs.YtllabnhgiojmmaaDoor
open Go.RowKit
set_option linter.unusedVariables false

/-- 64 places, the first ones filled. -/
def fillZ (l : List Int) : List Int := l ++ List.replicate (64 - l.length) 0
theorem fillZ_length (l : List Int) (h : l.length ≤ 64) : (fillZ l).length = 64 := by simp [fillZ]; omega
theorem fillZ_set (l : List Int) (x : Int) (h : l.length < 64) : (fillZ l).set l.length x = fillZ (l ++ [x]) := by
  unfold fillZ
  rw [List.set_append_right _ _ (Nat.le_refl _), Nat.sub_self, show 64 - l.length = (64 - (l ++ [x]).length) + 1 by simp; omega, List.replicate_succ]
  simp
theorem fillZ_get (l : List Int) (i : Nat) (h : i < l.length) : (fillZ l).getD i 0 = l.getD i 0 := by
  simp [fillZ, List.getD, List.getElem?_append_left h]
theorem fillZ_all (l : List Int) (h : l.length = 64) : fillZ l = l := by simp [fillZ, h]
def SprHead (w wr : World) (l : List Int) : Prop :=
  Row wr w.heap.size 60 (nums .u32 (List.replicate 64 0)) ∧ Row wr (w.heap.size + 1) 60 (nums .u32 (fillZ l)) ∧ Below w.heap.size w wr
set_option maxRecDepth 100000 in
theorem SprHead.start (w : World) : SprHead w ((w.alloc (.cells (nums .u32 (List.replicate 64 0)) 60)).alloc (.cells (nums .u32 (List.replicate 64 0)) 60)) [] :=
  ⟨(Row.made _ _ _).alloc _, Row.made2 _ _ _ _, ((Below.refl _ _).alloc (Nat.le_refl _) _).alloc (by simp) _⟩
theorem SprHead.next {w wr : World} {l : List Int} (H : SprHead w wr l) (hl : l.length < 64) (x : Int) : SprHead w (wr.setCell ⟨w.heap.size + 1, l.length, none⟩ (.int .u32 x)) (l ++ [x]) := by
  refine ⟨H.1.far (by simp) _, ?_, H.2.2.setCell (by simp) _⟩
  have := H.2.1.numPut l.length x
  rwa [fillZ_set l x hl] at this
theorem SprHead.drewN {w wr : World} {l : List Int} (H : SprHead w wr l) (n : Nat) : SprHead w (wr.drewN n) l := ⟨H.1.drewN n, H.2.1.drewN n, below_drewN H.2.2 n⟩
theorem getb_extract (s : ByteArray) (a b i : Nat) (hi : a + i < b) (hb : b ≤ s.size) : (s.extract a b).get! i = s.get! (a + i) := by
  rw [get_elem _ i (by rw [ByteArray.size_extract]; omega), get_elem s (a + i) (by omega)]
  exact ByteArray.getElem_extract _
theorem getN_word (s : ByteArray) (p : Nat) (h : p + 4 ≤ s.size) : getN (s.extract p (p + 4)) (min (s.extract p (p + 4)).size 8) = Sha.word s p := by
  rw [show min (s.extract p (p + 4)).size 8 = 4 by rw [ByteArray.size_extract]; omega]
  simp only [getN, Sha.word]
  rw [getb_extract s p (p + 4) 0 (by omega) h, getb_extract s p (p + 4) 1 (by omega) h, getb_extract s p (p + 4) 2 (by omega) h, getb_extract s p (p + 4) 3 (by omega) h]
  simp
theorem get_word (s : ByteArray) (p : Nat) (w : World) (h : p + 4 ≤ s.size) :
    Calls Tryd.prog 47 #[.string (s.extract p (p + 4))] w fun e w' => e = .returned (.int .u64 (Sha.word s p : Nat)) ∧ w = w' :=
  (get_any _ w (by rw [ByteArray.size_extract]; unfold maxLen; omega)).mono fun e w' ⟨h1, h2⟩ => ⟨by rw [h1, getN_word s p h], h2⟩
set_option maxHeartbeats 1000000 in
set_option maxRecDepth 100000 in
theorem spread_any (b : ByteArray) (hb : b.size = 64) (w : World) :
    Calls Tryd.prog 44 #[.string b] w fun ev w' => ev = .returned (.agg (nums .u32 (Sha.sched b 0 48))) ∧ Below w.heap.size w w' := by
  have HB := Lib.hid hb
  have hb1 : 64 ≤ b.size := by omega
  have hb2 : b.size ≤ 64 := by omega
  clear hb
  have H0 := Lib.hid (SprHead.start w)
  go_enter Tryd.func44, Tryd.ntmps44
  go_wp2
  go_loopw [10] (fun i wr => ∃ j : Nat, j ≤ 16 ∧ i = .int .i64 j ∧ Hid (SprHead w wr (Sha.first b 0 j))) (fun i _ => (16 - intOf i).toNat)
  case atStart => exact ⟨0, by omega, rfl, H0⟩
  case round =>
    obtain ⟨j, hj, rfl, HH⟩ := hrel
    by_cases hlt : j < 16
    · have hl := Sha.first_length b 0 j
      have hc := HH.out.2.1.num (i := j) (by rw [fillZ_length _ (by omega)]; omega)
      have hf := HH.out.2.1.free j
      have hwd := Sha.word_bd b (4 * j)
      have HL := Lib.hid hl
      clear hl
      go_wp2_with (go_at_call 47; (with_reducible refine (get_word _ _ _ (by omega)).mono ?_); rintro e w' ⟨rfl, rfl⟩)
      go_roundw
      case rel =>
        have H1 := HH.out.next (by rw [HL.out]; omega) ((Sha.word b (4 * j) : Nat) : Int)
        rw [HL.out] at H1
        exact ⟨j + 1, by omega, by go_num, Lib.hid (by simpa [Sha.first] using H1)⟩
      case measure => simp [intOf]; omega
    · have hJ : Hid (j = 16) := Lib.hid (by omega)
      have H1 : Hid (SprHead w wr (Sha.sched b 0 0)) := Lib.hid (by have h := HH.out; rw [hJ.out] at h; exact h)
      go_wp2
      go_loopw [5] (fun i wr => ∃ k : Nat, 16 ≤ k ∧ k ≤ 64 ∧ i = .int .i64 k ∧ Hid (SprHead w wr (Sha.sched b 0 (k - 16)))) (fun i _ => (64 - intOf i).toNat)
      case atStart => exact ⟨16, by omega, by omega, rfl, H1⟩
      case round =>
        rename_i wr0 _ _
        clear H1 HH
        obtain ⟨k, hk0, hk1, rfl, HH⟩ := hrel
        obtain ⟨l, hl⟩ : ∃ l, Hid (l = Sha.sched b 0 (k - 16)) := ⟨_, Lib.hid rfl⟩
        have hlen : Hid (l.length = k) := Lib.hid (by rw [hl.out, Sha.sched_length]; omega)
        by_cases hlt : k < 64
        · have hm : ∀ d : Nat, 0 < d → d ≤ 16 → ∃ x, Hid (x = l.getD (l.length - d) 0) ∧ wr.cell? ⟨w.heap.size + 1, k - d, none⟩ = some (.int .u32 x) ∧ 0 ≤ x ∧ x < 4294967296 := fun d hd hd2 => by
            have h1 := HH.out.2.1
            rw [← hl.out] at h1
            have h2 := h1.num (i := k - d) (by rw [fillZ_length _ (by rw [hlen.out]; omega)]; omega)
            rw [fillZ_get _ _ (by rw [hlen.out]; omega)] at h2
            have h3 := Sha.sched_small b 0 (k - 16) (k - d)
            rw [← hl.out] at h3
            exact ⟨_, Lib.hid (by rw [hlen.out]), h2, h3⟩
          obtain ⟨x16, e16, c16, b16⟩ := hm 16 (by omega) (by omega)
          obtain ⟨x15, e15, c15, b15⟩ := hm 15 (by omega) (by omega)
          obtain ⟨x7, e7, c7, b7⟩ := hm 7 (by omega) (by omega)
          obtain ⟨x2, e2, c2, b2⟩ := hm 2 (by omega) (by omega)
          have hc := HH.out.2.1.num (i := k) (by rw [fillZ_length _ (by rw [← hl.out, hlen.out]; omega)]; omega)
          have hf := HH.out.2.1.free k
          have g16 : 16 ≤ (k : Int) := by omega
          have g15 : 15 ≤ (k : Int) := by omega
          have g7 : 7 ≤ (k : Int) := by omega
          have g2 : 2 ≤ (k : Int) := by omega
          have g64 : (k : Int) < 64 := by omega
          have f16 : (k : Int) - 16 < 64 := by omega
          have f15 : (k : Int) - 15 < 64 := by omega
          have f7 : (k : Int) - 7 < 64 := by omega
          have f2 : (k : Int) - 2 < 64 := by omega
          clear hm
          go_wp2_with fail
          go_quiet (fail)
          go_wp2_with (go_at_call 48; (with_reducible refine (right_any _ _ _ (by omega)).mono ?_); rintro e w' ⟨rfl, rfl⟩)
          go_region
          go_wp2
          go_roundw
          case rel =>
            have H1 := (HH.out.drewN (nq + 1)).next (by rw [← hl.out, hlen.out]; omega) (Sha.more l)
            rw [← hl.out, hlen.out] at H1
            refine ⟨k + 1, by omega, by omega, by go_num, Lib.hid ?_⟩
            have e : Sha.sched b 0 (k + 1 - 16) = l ++ [Sha.more l] := by
              rw [show k + 1 - 16 = (k - 16) + 1 by omega]
              simp only [Sha.sched, ← hl.out]
            rw [e]
            unfold Sha.more at H1 ⊢
            rw [← e16.out, ← e15.out, ← e7.out, ← e2.out] at H1 ⊢
            exact H1
          case measure => simp [intOf]; omega
        · obtain rfl : k = 64 := by omega
          have hS : Hid (fillZ (Sha.sched b 0 48) = Sha.sched b 0 48) := Lib.hid (fillZ_all _ (Sha.sched_length b 0 48))
          have h1 := HH.out.1
          have h2 := HH.out.2.1
          have h3 := nums_one .u32 (fillZ (Sha.sched b 0 48))
          have h4 : (nums .u32 (fillZ (Sha.sched b 0 48))).size = 64 := by rw [nums_size, hS.out]; exact Sha.sched_length b 0 48
          have H4 := Lib.hid h4
          have H5 : Hid ((nums .u32 (List.replicate 64 0)).size = (nums .u32 (fillZ (Sha.sched b 0 48))).size) := Lib.hid (by rw [h4, nums_size]; simp)
          clear h4
          go_wp2_with (first
            | (refine wpList_load_row rfl 60 _ rfl (w.heap.size + 1) rfl 60 _ (0, 0) _ h2 Tryd.underlying60 rfl (by rw [H4.out]; kernel_rfl) ?_)
            | (refine wpList_store_row rfl 60 _ _ rfl w.heap.size _ rfl rfl 60 _ h1 (by rw [H4.out]; kernel_rfl) H5.out h3 ?_))
          refine bodyPost_ret (results_cell_row rfl _ _ w.heap.size 60 _ (0, 0) _ rfl (h1.whole _) Tryd.underlying60 rfl (by rw [H4.out]; kernel_rfl)) rfl ⟨?_, below_setRow HH.out.2.2 (Nat.le_refl _)⟩
          rw [hS.out]
end Go.Proofs.YtllabnhgiojmmaaDoor
