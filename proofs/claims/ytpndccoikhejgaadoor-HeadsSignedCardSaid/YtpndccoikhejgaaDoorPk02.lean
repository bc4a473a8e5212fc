/-
  Several texts in one (a claim has room for 60 files): ShaS, ShaB, Put, ShaF.
-/
import Derived.Test.YtpndccoikhejgaaDoorPk00
import Derived.BigRegion
import Derived.Test.YtpndccoikhejgaaDoorPk01
import Derived.Laws.BytesArg
import Derived.Test.YtpndccoikhejgaaDoorShelf
namespace Go.Proofs.YtpndccoikhejgaaDoor
open Go.RowKit
set_option linter.unusedVariables false

/-- 64 places, the first ones filled. -/
def fillZ (l : List Int) : List Int := l ++ List.replicate (64 - l.length) 0
theorem fillZ_length (l : List Int) (h : l.length ≤ 64) : (fillZ l).length = 64 := by simp [fillZ]; omega
theorem fillZ_set (l : List Int) (x : Int) (h : l.length < 64) : (fillZ l).set l.length x = fillZ (l ++ [x]) := by
  unfold fillZ
  rw [List.set_append_right _ _ (Nat.le_refl _), Nat.sub_self, show 64 - l.length = (64 - (l ++ [x]).length) + 1 by simp; omega, List.replicate_succ]
  simp
theorem fillZ_get (l : List Int) (i : Nat) (h : i < l.length) : (fillZ l).getD i 0 = l.getD i 0 := by
  simp [fillZ, List.getD, List.getElem?_append_left h]
theorem fillZ_all (l : List Int) (h : l.length = 64) : fillZ l = l := by simp [fillZ, h]
def SprHead (w wr : World) (l : List Int) : Prop :=
  Row wr w.heap.size 96 (nums .u32 (List.replicate 64 0)) ∧ Row wr (w.heap.size + 1) 96 (nums .u32 (fillZ l)) ∧ Below w.heap.size w wr
set_option maxRecDepth 100000 in
theorem SprHead.start (w : World) : SprHead w ((w.alloc (.cells (nums .u32 (List.replicate 64 0)) 96)).alloc (.cells (nums .u32 (List.replicate 64 0)) 96)) [] :=
  ⟨(Row.made _ _ _).alloc _, Row.made2 _ _ _ _, ((Below.refl _ _).alloc (Nat.le_refl _) _).alloc (by simp) _⟩
theorem SprHead.next {w wr : World} {l : List Int} (H : SprHead w wr l) (hl : l.length < 64) (x : Int) : SprHead w (wr.setCell ⟨w.heap.size + 1, l.length, none⟩ (.int .u32 x)) (l ++ [x]) := by
  refine ⟨H.1.far (by simp) _, ?_, H.2.2.setCell (by simp) _⟩
  have := H.2.1.numPut l.length x
  rwa [fillZ_set l x hl] at this
theorem SprHead.drewN {w wr : World} {l : List Int} (H : SprHead w wr l) (n : Nat) : SprHead w (wr.drewN n) l := ⟨H.1.drewN n, H.2.1.drewN n, below_drewN H.2.2 n⟩
theorem getb_extract (s : ByteArray) (a b i : Nat) (hi : a + i < b) (hb : b ≤ s.size) : (s.extract a b).get! i = s.get! (a + i) := by
  rw [get_elem _ i (by rw [ByteArray.size_extract]; omega), get_elem s (a + i) (by omega)]
  exact ByteArray.getElem_extract _
theorem getN_word (s : ByteArray) (p : Nat) (h : p + 4 ≤ s.size) : getN (s.extract p (p + 4)) (min (s.extract p (p + 4)).size 8) = Sha.word s p := by
  rw [show min (s.extract p (p + 4)).size 8 = 4 by rw [ByteArray.size_extract]; omega]
  simp only [getN, Sha.word]
  rw [getb_extract s p (p + 4) 0 (by omega) h, getb_extract s p (p + 4) 1 (by omega) h, getb_extract s p (p + 4) 2 (by omega) h, getb_extract s p (p + 4) 3 (by omega) h]
  simp
theorem get_word (s : ByteArray) (p : Nat) (w : World) (h : p + 4 ≤ s.size) :
    Calls Tryd.prog 90 #[.string (s.extract p (p + 4))] w fun e w' => e = .returned (.int .u64 (Sha.word s p : Nat)) ∧ w = w' :=
  (get_any _ w (by rw [ByteArray.size_extract]; unfold maxLen; omega)).mono fun e w' ⟨h1, h2⟩ => ⟨by rw [h1, getN_word s p h], h2⟩
set_option maxHeartbeats 1000000 in
set_option maxRecDepth 100000 in
theorem spread_any (b : ByteArray) (hb : b.size = 64) (w : World) :
    Calls Tryd.prog 81 #[.string b] w fun ev w' => ev = .returned (.agg (nums .u32 (Sha.sched b 0 48))) ∧ Below w.heap.size w w' := by
  have HB := Lib.hid hb
  have hb1 : 64 ≤ b.size := by omega
  have hb2 : b.size ≤ 64 := by omega
  clear hb
  have H0 := Lib.hid (SprHead.start w)
  go_enter Tryd.func81, Tryd.ntmps81
  go_wp2
  go_loopw [10] (fun i wr => ∃ j : Nat, j ≤ 16 ∧ i = .int .i64 j ∧ Hid (SprHead w wr (Sha.first b 0 j))) (fun i _ => (16 - intOf i).toNat)
  case atStart => exact ⟨0, by omega, rfl, H0⟩
  case round =>
    obtain ⟨j, hj, rfl, HH⟩ := hrel
    by_cases hlt : j < 16
    · have hl := Sha.first_length b 0 j
      have hc := HH.out.2.1.num (i := j) (by rw [fillZ_length _ (by omega)]; omega)
      have hf := HH.out.2.1.free j
      have hwd := Sha.word_bd b (4 * j)
      have HL := Lib.hid hl
      clear hl
      go_wp2_with (go_at_call 90; (with_reducible refine (get_word _ _ _ (by omega)).mono ?_); rintro e w' ⟨rfl, rfl⟩)
      go_roundw
      case rel =>
        have H1 := HH.out.next (by rw [HL.out]; omega) ((Sha.word b (4 * j) : Nat) : Int)
        rw [HL.out] at H1
        exact ⟨j + 1, by omega, by go_num, Lib.hid (by simpa [Sha.first] using H1)⟩
      case measure => simp [intOf]; omega
    · have hJ : Hid (j = 16) := Lib.hid (by omega)
      have H1 : Hid (SprHead w wr (Sha.sched b 0 0)) := Lib.hid (by have h := HH.out; rw [hJ.out] at h; exact h)
      go_wp2
      go_loopw [5] (fun i wr => ∃ k : Nat, 16 ≤ k ∧ k ≤ 64 ∧ i = .int .i64 k ∧ Hid (SprHead w wr (Sha.sched b 0 (k - 16)))) (fun i _ => (64 - intOf i).toNat)
      case atStart => exact ⟨16, by omega, by omega, rfl, H1⟩
      case round =>
        rename_i wr0 _ _
        clear H1 HH
        obtain ⟨k, hk0, hk1, rfl, HH⟩ := hrel
        obtain ⟨l, hl⟩ : ∃ l, Hid (l = Sha.sched b 0 (k - 16)) := ⟨_, Lib.hid rfl⟩
        have hlen : Hid (l.length = k) := Lib.hid (by rw [hl.out, Sha.sched_length]; omega)
        by_cases hlt : k < 64
        · have hm : ∀ d : Nat, 0 < d → d ≤ 16 → ∃ x, Hid (x = l.getD (l.length - d) 0) ∧ wr.cell? ⟨w.heap.size + 1, k - d, none⟩ = some (.int .u32 x) ∧ 0 ≤ x ∧ x < 4294967296 := fun d hd hd2 => by
            have h1 := HH.out.2.1
            rw [← hl.out] at h1
            have h2 := h1.num (i := k - d) (by rw [fillZ_length _ (by rw [hlen.out]; omega)]; omega)
            rw [fillZ_get _ _ (by rw [hlen.out]; omega)] at h2
            have h3 := Sha.sched_small b 0 (k - 16) (k - d)
            rw [← hl.out] at h3
            exact ⟨_, Lib.hid (by rw [hlen.out]), h2, h3⟩
          obtain ⟨x16, e16, c16, b16⟩ := hm 16 (by omega) (by omega)
          obtain ⟨x15, e15, c15, b15⟩ := hm 15 (by omega) (by omega)
          obtain ⟨x7, e7, c7, b7⟩ := hm 7 (by omega) (by omega)
          obtain ⟨x2, e2, c2, b2⟩ := hm 2 (by omega) (by omega)
          have hc := HH.out.2.1.num (i := k) (by rw [fillZ_length _ (by rw [← hl.out, hlen.out]; omega)]; omega)
          have hf := HH.out.2.1.free k
          have g16 : 16 ≤ (k : Int) := by omega
          have g15 : 15 ≤ (k : Int) := by omega
          have g7 : 7 ≤ (k : Int) := by omega
          have g2 : 2 ≤ (k : Int) := by omega
          have g64 : (k : Int) < 64 := by omega
          have f16 : (k : Int) - 16 < 64 := by omega
          have f15 : (k : Int) - 15 < 64 := by omega
          have f7 : (k : Int) - 7 < 64 := by omega
          have f2 : (k : Int) - 2 < 64 := by omega
          clear hm
          go_wp2_with fail
          go_quiet (fail)
          go_wp2_with (go_at_call 91; (with_reducible refine (right_any _ _ _ (by omega)).mono ?_); rintro e w' ⟨rfl, rfl⟩)
          go_region
          go_wp2
          go_roundw
          case rel =>
            have H1 := (HH.out.drewN (nq + 1)).next (by rw [← hl.out, hlen.out]; omega) (Sha.more l)
            rw [← hl.out, hlen.out] at H1
            refine ⟨k + 1, by omega, by omega, by go_num, Lib.hid ?_⟩
            have e : Sha.sched b 0 (k + 1 - 16) = l ++ [Sha.more l] := by
              rw [show k + 1 - 16 = (k - 16) + 1 by omega]
              simp only [Sha.sched, ← hl.out]
            rw [e]
            unfold Sha.more at H1 ⊢
            rw [← e16.out, ← e15.out, ← e7.out, ← e2.out] at H1 ⊢
            exact H1
          case measure => simp [intOf]; omega
        · obtain rfl : k = 64 := by omega
          have hS : Hid (fillZ (Sha.sched b 0 48) = Sha.sched b 0 48) := Lib.hid (fillZ_all _ (Sha.sched_length b 0 48))
          have h1 := HH.out.1
          have h2 := HH.out.2.1
          have h3 := nums_one .u32 (fillZ (Sha.sched b 0 48))
          have h4 : (nums .u32 (fillZ (Sha.sched b 0 48))).size = 64 := by rw [nums_size, hS.out]; exact Sha.sched_length b 0 48
          have H4 := Lib.hid h4
          have H5 : Hid ((nums .u32 (List.replicate 64 0)).size = (nums .u32 (fillZ (Sha.sched b 0 48))).size) := Lib.hid (by rw [h4, nums_size]; simp)
          clear h4
          go_wp2_with (first
            | (refine wpList_load_row rfl 96 _ rfl (w.heap.size + 1) rfl 96 _ (0, 0) _ h2 Tryd.underlying96 rfl (by rw [H4.out]; kernel_rfl) ?_)
            | (refine wpList_store_row rfl 96 _ _ rfl w.heap.size _ rfl rfl 96 _ h1 (by rw [H4.out]; kernel_rfl) H5.out h3 ?_))
          refine bodyPost_ret (results_cell_row rfl _ _ w.heap.size 96 _ (0, 0) _ rfl (h1.whole _) Tryd.underlying96 rfl (by rw [H4.out]; kernel_rfl)) rfl ⟨?_, below_setRow HH.out.2.2 (Nat.le_refl _)⟩
          rw [hS.out]
end Go.Proofs.YtpndccoikhejgaaDoor
namespace Go.Proofs.YtpndccoikhejgaaDoor
open Go.RowKit
set_option linter.unusedVariables false
set_option maxRecDepth 100000

/-- The rounds' numbers, and those ahead of the first block. -/
def Ks : List Int := [
    0x428a2f98, 0x71374491, 0xb5c0fbcf, 0xe9b5dba5, 0x3956c25b, 0x59f111f1, 0x923f82a4, 0xab1c5ed5,
    0xd807aa98, 0x12835b01, 0x243185be, 0x550c7dc3, 0x72be5d74, 0x80deb1fe, 0x9bdc06a7, 0xc19bf174,
    0xe49b69c1, 0xefbe4786, 0x0fc19dc6, 0x240ca1cc, 0x2de92c6f, 0x4a7484aa, 0x5cb0a9dc, 0x76f988da,
    0x983e5152, 0xa831c66d, 0xb00327c8, 0xbf597fc7, 0xc6e00bf3, 0xd5a79147, 0x06ca6351, 0x14292967,
    0x27b70a85, 0x2e1b2138, 0x4d2c6dfc, 0x53380d13, 0x650a7354, 0x766a0abb, 0x81c2c92e, 0x92722c85,
    0xa2bfe8a1, 0xa81a664b, 0xc24b8b70, 0xc76c51a3, 0xd192e819, 0xd6990624, 0xf40e3585, 0x106aa070,
    0x19a4c116, 0x1e376c08, 0x2748774c, 0x34b0bcb5, 0x391c0cb3, 0x4ed8aa4a, 0x5b9cca4f, 0x682e6ff3,
    0x748f82ee, 0x78a5636f, 0x84c87814, 0x8cc70208, 0x90befffa, 0xa4506ceb, 0xbef9a3f7, 0xc67178f2]
def Hs : Sha.St := ⟨0x6a09e667, 0xbb67ae85, 0x3c6ef372, 0xa54ff53a, 0x510e527f, 0x9b05688c, 0x1f83d9ab, 0x5be0cd19⟩
/-- The two tables as they were laid. -/
def Tab (w : World) : Prop :=
  (∀ i, i < 64 → w.cell? ⟨1, i, none⟩ = some (.int .u32 (Ks.getD i 0))) ∧ (∀ i, i < 8 → w.cell? ⟨0, i, none⟩ = some (.int .u32 (Hs.list.getD i 0)))
theorem Tab.next {w w' : World} (h : Tab w) (hb : Below w.heap.size w w') : Tab w' := ⟨fun i hi => below_cell hb (h.1 i hi), fun i hi => below_cell hb (h.2 i hi)⟩

def mixL (s r : Sha.St) (k : Nat) : List Int := (s.plus r).list.take k ++ s.list.drop k
theorem mixL_get (s r : Sha.St) (k : Nat) (h : k < 8) : (mixL s r k).getD k 0 = s.list.getD k 0 := by
  match k, h with
  | 0, _ => rfl
  | 1, _ => rfl
  | 2, _ => rfl
  | 3, _ => rfl
  | 4, _ => rfl
  | 5, _ => rfl
  | 6, _ => rfl
  | 7, _ => rfl
theorem mixL_set (s r : Sha.St) (k : Nat) (h : k < 8) : (mixL s r k).set k ((s.list.getD k 0 + r.list.getD k 0) % 4294967296) = mixL s r (k + 1) := by
  match k, h with
  | 0, _ => rfl
  | 1, _ => rfl
  | 2, _ => rfl
  | 3, _ => rfl
  | 4, _ => rfl
  | 5, _ => rfl
  | 6, _ => rfl
  | 7, _ => rfl
theorem mixL_length (s r : Sha.St) (k : Nat) (h : k ≤ 8) : (mixL s r k).length = 8 := by
  simp [mixL, Sha.St.list]; omega
theorem index8 (r : Sha.St) (k : Nat) (h : k < 8) (w : World) : (Instr.index 93 (.agg r.cells) (.int .i64 k)).run Tryd.prog w = .ok (.int .u32 (r.list.getD k 0)) w := by
  match k, h with
  | 0, _ => rfl
  | 1, _ => rfl
  | 2, _ => rfl
  | 3, _ => rfl
  | 4, _ => rfl
  | 5, _ => rfl
  | 6, _ => rfl
  | 7, _ => rfl
def ThrHead (w wr : World) (l : List Int) : Prop := Row wr w.heap.size 93 (nums .u32 l) ∧ Row wr (w.heap.size + 1) 93 (nums .u32 [0, 0, 0, 0, 0, 0, 0, 0]) ∧ Below w.heap.size w wr
theorem ThrHead.start (w : World) (s : Sha.St) : ThrHead w ((w.alloc (.cells s.cells 93)).alloc (.cells (nums .u32 [0, 0, 0, 0, 0, 0, 0, 0]) 93)) s.list :=
  ⟨(Row.made w 93 s.cells).alloc _, Row.made2 _ _ _ _, ((Below.refl _ _).alloc (Nat.le_refl _) _).alloc (by simp) _⟩
theorem ThrHead.below {w wr w1 : World} {l : List Int} (h : ThrHead w wr l) (hb : Below wr.heap.size wr w1) : ThrHead w w1 l := ⟨h.1.next hb, h.2.1.next hb, below_new h.2.2 hb⟩
theorem ThrHead.put {w wr : World} {s r : Sha.St} {k : Nat} (h : ThrHead w wr (mixL s r k)) (hk : k < 8) : ThrHead w (wr.setCell ⟨w.heap.size, k, none⟩ (.int .u32 ((s.list.getD k 0 + r.list.getD k 0) % 4294967296))) (mixL s r (k + 1)) := by
  refine ⟨?_, h.2.1.far (by simp) _, h.2.2.setCell (by simp) _⟩
  have := h.1.numPut k ((s.list.getD k 0 + r.list.getD k 0) % 4294967296)
  rwa [mixL_set s r k hk] at this
theorem spread_at (b : ByteArray) (p : Nat) (w : World) (h : p + 64 ≤ b.size) :
    Calls Tryd.prog 81 #[.string (b.extract p (p + 64))] w fun ev w' => ev = .returned (.agg (nums .u32 (Sha.sched b p 48))) ∧ Below w.heap.size w w' :=
  (spread_any (b.extract p (p + 64)) (by rw [ByteArray.size_extract]; omega) w).mono fun e w' ⟨h1, h2⟩ =>
    ⟨by rw [h1, Sha.sched_congr (b.extract p (p + 64)) b 0 p 48 (fun i hi => by rw [Nat.zero_add]; exact getb_extract b p (p + 64) i (by omega) h)], h2⟩
theorem sched_64 (b : ByteArray) (p : Nat) : (Sha.sched b p 48).length = 64 := Sha.sched_length b p 48
theorem size64 (l : List Int) (h : l.length = 64) : (Tryd.prog.info? 96).map (·.size) = some (nums .u32 l).size := by rw [nums_size, h]; kernel_rfl
set_option maxHeartbeats 1000000 in
set_option maxRecDepth 100000 in
theorem through_any (s : Sha.St) (b : ByteArray) (n : Nat) (hb : b.size = 64 * n) (hm : b.size ≤ maxLen) (w : World) (hT : Tab w) (h8 : s.ok) :
    Calls Tryd.prog 58 #[.agg s.cells, .string b] w fun ev w' => ev = .returned (.agg (Sha.blocks Ks s b n).cells) ∧ Below w.heap.size w w' := by
  unfold maxLen at hm
  have hb1 : 64 * n ≤ b.size := by omega
  have hb2 : b.size ≤ 64 * n := by omega
  have HT := Lib.hid hT
  have H8 := Lib.hid h8
  clear hb hT h8
  have H0 := Lib.hid (ThrHead.start w s)
  go_enter Tryd.func58, Tryd.ntmps58
  go_wp2
  go_loopw [5] (fun i wr => ∃ j : Nat, j ≤ n ∧ i = .int .i64 ((64 * j : Nat) : Int) ∧ Hid (ThrHead w wr (Sha.blocks Ks s b j).list)) (fun i _ => (64 * n - intOf i).toNat)
  case atStart => exact ⟨0, by omega, rfl, H0⟩
  case round =>
    obtain ⟨j, hj, rfl, HH⟩ := hrel
    by_cases hlt : j < n
    · obtain ⟨st, hst⟩ : ∃ st, Hid (st = Sha.blocks Ks s b j) := ⟨_, Lib.hid rfl⟩
      rw [← hst.out] at HH
      have hok : Hid st.ok := Lib.hid (by rw [hst.out]; exact Sha.blocks_ok Ks s b H8.out j)
      go_wp2_with (first
        | (go_at_call 81; (with_reducible refine (spread_at b _ _ (by omega)).mono ?_); rintro e w1 ⟨rfl, hb1⟩)
        | (refine wpList_store_fresh rfl 96 _ _ rfl _ rfl rfl 96 _ (size64 _ (Sha.sched_length b (64 * j) 48)) (by rw [nums_size, Sha.sched_length]; rfl) (nums_one _ _) ?_
           intro w2 hS2 hb2
           have HQ : Hid (ThrHead w w2 st.list) := Lib.hid ((HH.out.below hb1).below hb2)
           have HS := Lib.hid hS2
           have HK2 := Lib.hid (HT.out.next HQ.out.2.2).1
           clear hS2 hb1 hb2
           have hR2 : Row w2 w.heap.size 93 st.cells := HQ.out.1)
        | (refine wpList_load_row rfl 93 _ rfl w.heap.size rfl 93 _ (0, 0) _ hR2 Tryd.underlying93 rfl size8 ?_)
        | (go_at_call 82; (with_reducible refine (turned_any st (Sha.sched b (64 * j) 48) Ks _ _ HS.out (sched_64 b (64 * j)) HK2.out hok.out).mono ?_); rintro e w3 ⟨rfl, hb3⟩))
      obtain ⟨r, hr⟩ : ∃ r, Hid (r = Sha.rnd Ks (Sha.sched b (64 * j) 48) st 64) := ⟨_, Lib.hid rfl⟩
      rw [← hr.out]
      have H3 : Hid (ThrHead w w3 (mixL st r 0)) := Lib.hid (HQ.out.below hb3)
      clear HQ hb3 hR2 HS
      go_loopw [7, 8, 23] (fun _ _ i wr => ∃ k : Nat, k ≤ 8 ∧ i = .int .i64 k ∧ Hid (ThrHead w wr (mixL st r k))) (fun _ _ i _ => (8 - intOf i).toNat)
      case atStart => exact ⟨0, by omega, rfl, H3⟩
      case round =>
        clear H3
        obtain ⟨k, hk, rfl, HK⟩ := hrel
        by_cases hk8 : k < 8
        · obtain ⟨x, hx⟩ : ∃ x, Hid (x = st.list.getD k 0) := ⟨_, Lib.hid rfl⟩
          obtain ⟨y, hy⟩ : ∃ y, Hid (y = r.list.getD k 0) := ⟨_, Lib.hid rfl⟩
          have hc := HK.out.1.num (i := k) (by rw [mixL_length _ _ _ hk]; omega)
          rw [mixL_get st r k hk8, ← hx.out] at hc
          have hf := HK.out.1.free k
          have hi := fun w => index8 r k hk8 w
          rw [← hy.out] at hi
          go_wp2
          go_roundw
          case rel => exact ⟨k + 1, by omega, by go_num, Lib.hid (by have h := HK.out.put hk8; rw [← hx.out, ← hy.out] at h; exact h)⟩
          case measure => simp [intOf]; omega
        · have hk9 : Hid (k = 8) := Lib.hid (by omega)
          go_wp2
          go_roundw
          case rel =>
            have h := HK.out
            rw [hk9.out, hr.out] at h
            exact ⟨j + 1, by omega, by go_num, Lib.hid (by rw [hst.out] at h; exact h)⟩
          case measure => simp [intOf]; omega
    · obtain rfl : n = j := by omega
      have h1 : Row wr w.heap.size 93 (Sha.blocks Ks s b n).cells := HH.out.1
      have h2 := HH.out.2.1
      go_wp2_with (first
        | (refine wpList_load_row rfl 93 _ rfl w.heap.size rfl 93 _ (0, 0) _ h1 Tryd.underlying93 rfl size8 ?_)
        | (refine wpList_store_row rfl 93 _ _ rfl (w.heap.size + 1) _ rfl rfl 93 _ h2 size8 rfl (one8 _ _ _ _ _ _ _ _) ?_))
      exact bodyPost_ret (results_cell_row rfl _ _ (w.heap.size + 1) 93 _ (0, 0) _ rfl (h2.whole _) Tryd.underlying93 rfl size8) rfl ⟨rfl, below_setRow HH.out.2.2 (by omega)⟩
end Go.Proofs.YtpndccoikhejgaaDoor
namespace Go.Proofs.YtpndccoikhejgaaDoor
open Go.RowKit
set_option linter.unusedVariables false
set_option maxRecDepth 100000

/-- The k lowest bytes of a number, the highest of them first. -/
def putL (n : Int) : Nat → List Int
  | 0 => []
  | k + 1 => (n / 2 ^ (8 * k) % 256) :: putL n k
theorem putL_length (n : Int) (k : Nat) : (putL n k).length = k := by
  induction k with
  | zero => rfl
  | succ k ih => simp [putL, ih]
/-- The row behind j rounds. -/
def rowL (n : Int) (s j : Nat) : List Int := List.replicate (s - j) 0 ++ putL n j
theorem rowL_length (n : Int) (s j : Nat) (h : j ≤ s) : (rowL n s j).length = s := by
  simp [rowL, putL_length]; omega
theorem rowL_zero (n : Int) (s : Nat) : rowL n s 0 = List.replicate s 0 := by simp [rowL, putL]
theorem rowL_all (n : Int) (s : Nat) : rowL n s s = putL n s := by simp [rowL]
theorem rowL_step (n : Int) (s j : Nat) (h : j < s) : (rowL n s j).set (s - 1 - j) (n / 2 ^ (8 * j) % 256) = rowL n s (j + 1) := by
  have e : s - j = (s - (j + 1)) + 1 := by omega
  have e2 : s - 1 - j = s - (j + 1) := by omega
  unfold rowL
  rw [e, e2, List.replicate_succ', List.append_assoc, List.set_append_right _ _ (by simp)]
  simp [putL]
theorem rowL_cell (n : Int) (s j : Nat) (h : j < s) : ((rowL n s j).map (Value.int .u8))[s - 1 - j]? = some (.int .u8 0) := by
  have e : s - j = (s - (j + 1)) + 1 := by omega
  have e2 : s - 1 - j = s - (j + 1) := by omega
  unfold rowL
  rw [e, e2, List.replicate_succ', List.append_assoc, List.map_append, List.getElem?_append_right (by simp)]
  simp

/-- The bytes of a number as a text; nothing where the size is none. -/
def putS (n k : Int) : ByteArray := if 1 ≤ k ∧ k ≤ 8 then strOfNums (putL n k.toNat) else ⟨#[]⟩
theorem putS_none (n k : Int) (h : ¬ (1 ≤ k ∧ k ≤ 8)) : putS n k = ⟨#[]⟩ := by unfold putS; rw [if_neg h]
theorem putS_some (n k : Int) (h : 1 ≤ k ∧ k ≤ 8) : putS n k = strOfNums (putL n k.toNat) := by unfold putS; rw [if_pos h]
theorem ret_str {a b : ByteArray} (h : a = b) : Ending.returned (.string a) = .returned (.string b) := by rw [h]

theorem info_u8 : (Tryd.prog.info? 5).map (fun i => (i.zero, i.size, i.bytes)) = some (some (.int .u8 0), 1, 1) := by kernel_rfl

/-- What holds at the head of each round: the row is the call's own; nothing that was there has changed. -/
def PutHead (n : Int) (s : Nat) (w wr : World) (j : Nat) : Prop :=
  wr.ownsRow w.heap.size 5 1 (.slice (some ⟨w.heap.size, 0, none⟩) s s) s ((rowL n s j).map (Value.int .u8)) ∧ Below w.heap.size w wr
theorem PutHead.start {n : Int} {s : Nat} {w w1 : World} (ho : w1.ownsRow w.heap.size 5 1 (.slice (some ⟨w.heap.size, 0, none⟩) s s) s (madeCells #[Value.int .u8 0] s).toList) (hg : w.grownBy w1 none) : PutHead n s w w1 0 := by
  refine ⟨?_, (Below.refl _ _).grown hg (Nat.le_refl _) (fun k hk => by simp at hk)⟩
  rw [rowL_zero, List.map_replicate, ← toList_madeCells_one]; exact ho
theorem PutHead.cell {n : Int} {s : Nat} {w wr : World} {j : Nat} (h : PutHead n s w wr j) (hj : j < s) : wr.cell? ⟨w.heap.size, s - 1 - j, none⟩ = some (.int .u8 0) := by
  rw [h.1.cellAt _ (by omega)]; exact rowL_cell n s j hj
theorem PutHead.free {n : Int} {s : Nat} {w wr : World} {j : Nat} (h : PutHead n s w wr j) (i : Nat) : wr.frozen? ⟨w.heap.size, i, none⟩ = false := h.1.frozenAt i
theorem PutHead.next {n : Int} {s : Nat} {w wr : World} {j : Nat} (h : PutHead n s w wr j) (hj : j < s) : PutHead n s w (wr.setCell ⟨w.heap.size, s - 1 - j, none⟩ (.int .u8 (n / 2 ^ (8 * j) % 256))) (j + 1) := by
  refine ⟨?_, h.2.setCell (Nat.le_refl _) _⟩
  have := (h.1.stored (s - 1 - j) (.int .u8 (n / 2 ^ (8 * j) % 256))).1
  rw [← List.map_set, rowL_step n s j hj] at this
  exact this
theorem PutHead.text {n : Int} {s : Nat} {w wr : World} (h : PutHead n s w wr s) : (convert 48 9 (.slice (some ⟨w.heap.size, 0, none⟩) s s)).run Tryd.prog wr = .ok (.string (strOfNums (putL n s))) wr :=
  run_convert_bytes_arg wr 48 5 Tryd.underlying48 Tryd.underlying5 w.heap.size 0 s s (putL n s) (putL_length n s) (fun i hi => by
    have := h.1.cellAt i (by omega)
    rw [rowL_all] at this
    rw [Nat.zero_add, this]
    simp [List.getD, List.getElem?_map, List.getElem?_eq_getElem (show i < (putL n s).length by rw [putL_length]; exact hi)]) 9 Tryd.underlying9

set_option maxHeartbeats 400000 in
theorem put_some (n : Int) (s : Nat) (w : World) (h : 0 ≤ n ∧ n < 18446744073709551616) (h1 : 1 ≤ s) (h8 : s ≤ 8) :
    Calls Tryd.prog 37 #[.int .u64 n, .int .i64 s] w fun e w' => e = .returned (.string (strOfNums (putL n s))) ∧ Below w.heap.size w w' := by
  obtain ⟨i0, hi, hz0, hz1, hz2⟩ := info_parts info_u8
  go_enter Tryd.func37, Tryd.ntmps37
  go_wp2_with (at_make; refine wpList_make_full _ rfl _ _ 48 rfl w.heap.size 5 i0 (.int .u8 0) 1 Tryd.underlying48 hi hz0 hz1 _ _ _ _ s rfl rfl rfl rfl (by rw [hz2]; omega) (by unfold maxLen; omega) (Nat.le_refl _) ?_)
  intro w1 ho hg
  have H0 := Lib.hid (PutHead.start (n := n) ho hg)
  clear ho hg
  go_wp2
  go_loopw [16] (fun i wr => ∃ j : Nat, j ≤ s ∧ i = .int .i64 j ∧ Hid (PutHead n s w wr j)) (fun i _ => (s - intOf i).toNat)
  case atStart => exact ⟨0, by omega, rfl, H0⟩
  case round =>
    obtain ⟨j, hj, rfl, HP⟩ := hrel
    by_cases hlt : j < s
    · have hc := HP.out.cell hlt
      have hf := HP.out.free (s - 1 - j)
      go_wp2
      go_roundw
      case rel => exact ⟨j + 1, by omega, by go_num, HP.out.next hlt⟩
      case measure => simp [intOf]; omega
    · obtain rfl : s = j := by omega
      have ht := HP.out.text
      go_wp2
      go_ret
      exact ⟨rfl, HP.out.2⟩
set_option maxHeartbeats 400000 in
theorem put_any (n k : Int) (w : World) (h : 0 ≤ n ∧ n < 18446744073709551616) :
    Calls Tryd.prog 37 #[.int .u64 n, .int .i64 k] w fun e w' => e = .returned (.string (putS n k)) ∧ Below w.heap.size w w' := by
  by_cases hs : 1 ≤ k ∧ k ≤ 8
  · obtain ⟨s, rfl⟩ : ∃ s : Nat, k = s := ⟨k.toNat, by omega⟩
    rw [putS_some n s hs]
    exact put_some n s w h (by omega) (by omega)
  · have HZ := Lib.hid (putS_none n k hs)
    by_cases hs1 : k < 1
    · go_enter Tryd.func37, Tryd.ntmps37
      go_wp2
      go_ret
      exact ⟨ret_str HZ.out.symm, Below.refl _ _⟩
    · have hs2 : 8 < k := by omega
      go_enter Tryd.func37, Tryd.ntmps37
      go_wp2
      go_ret
      exact ⟨ret_str HZ.out.symm, Below.refl _ _⟩

end Go.Proofs.YtpndccoikhejgaaDoor
namespace Go.Proofs.YtpndccoikhejgaaDoor
open Go.RowKit
set_option linter.unusedVariables false

def zerosS (z : Nat) : ByteArray := ⟨(Lib.repeatL (⟨#[0]⟩ : ByteArray).data.toList z).toArray⟩
abbrev mark : ByteArray := ⟨#[128]⟩
/-- A text's end e, filled up; the text has n bytes. -/
def fillS (e : ByteArray) (n : Nat) : ByteArray := ((e ++ mark) ++ zerosS ((119 - e.size) % 64)) ++ putS (8 * (n : Int)) 8
theorem zeros_any (z : Nat) (w : World) (h : z < 64) : Calls Tryd.prog 83 #[.string ⟨#[0]⟩, .int .i64 z] w fun e w' => e = .returned (.string (zerosS z)) ∧ Below w.heap.size w w' :=
  Tryd.strings_Repeat ⟨#[0]⟩ z w (by omega) (by show 1 * z ≤ _; omega)
theorem zerosS_size (z : Nat) : (zerosS z).size = z := by
  show (Lib.repeatL [0] z).toArray.size = z
  rw [List.size_toArray, Lib.repeatL_length]; simp
theorem put8_size (n : Int) : (putS n 8).size = 8 := by
  rw [putS_some n 8 (by omega), strOfNums_size, putL_length]; rfl
theorem add_run (a b : ByteArray) (h : a.size + b.size ≤ 9223372036854775807) (w : World) : (Op.stringOp .add a b).run Tryd.prog w = .ok (.string (a ++ b)) w :=
  run_string_add_sum (P := Tryd.prog) (w := w) a b (by omega)
set_option maxHeartbeats 1000000 in
theorem filled_any (e : ByteArray) (n : Nat) (he : e.size ≤ 63) (hn : n ≤ 1152921504606846976) (w : World) :
    Calls Tryd.prog 59 #[.string e, .int .i64 n] w fun ev w' => ev = .returned (.string (fillS e n)) ∧ Below w.heap.size w w' := by
  have H8 : 8 * (n : Int) < 18446744073709551616 := by omega
  obtain ⟨z, hz, hz1, hz2⟩ : ∃ z : Nat, (119 - (e.size : Int)) % 64 = (z : Int) ∧ z < 64 ∧ Hid (z = (119 - e.size) % 64) := ⟨(119 - e.size) % 64, by omega, by omega, Lib.hid rfl⟩
  have a1 := add_run e mark (by show e.size + 1 ≤ _; omega)
  have a2 := add_run (e ++ mark) (zerosS z) (by rw [ByteArray.size_append, zerosS_size]; show e.size + 1 + _ ≤ _; omega)
  have a3 := add_run ((e ++ mark) ++ zerosS z) (putS (8 * (n : Int)) 8) (by rw [ByteArray.size_append, ByteArray.size_append, zerosS_size, put8_size]; show e.size + 1 + _ + _ ≤ _; omega)
  clear hn
  have hn : 8 * (n : Int) < 18446744073709551616 ∧ 0 ≤ 8 * (n : Int) := ⟨H8, by omega⟩
  go_enter Tryd.func59, Tryd.ntmps59
  go_wp2_with (first
    | (go_at_call 83; (with_reducible refine (zeros_any z _ hz1).mono ?_); rintro e w1 ⟨rfl, hb1⟩)
    | (go_at_call 37; (with_reducible refine (put_any (8 * (n : Int)) 8 _ ⟨hn.2, hn.1⟩).mono ?_); rintro e w2 ⟨rfl, hb2⟩))
  go_ret
  refine ⟨?_, hb1.trans (hb2.mono hb1.size)⟩
  unfold fillS
  rw [← hz2.out]
  rfl
end Go.Proofs.YtpndccoikhejgaaDoor
