/-
  TreeRoot.
-/
import Derived.Test.YtpndccoikhejgaaDoorPk11
import Derived.Test.YtpndccoikhejgaaDoorPk12
namespace Go.Proofs.YtpndccoikhejgaaDoor
open Go.RowKit
set_option linter.unusedVariables false
set_option maxRecDepth 100000

/-- What the function in Root captures: the list, and itself. -/
def halfF (gl gf : Nat) : Value := .func (.func 75) #[] #[.pointer (some ⟨gl, 0, none⟩), .pointer (some ⟨gf, 0, none⟩)]
structure HalfH (w wr : World) (gl gf : Nat) (A : Option Addr) (n c : Nat) (ls : List (List Int)) : Prop where
  out : Row wr w.heap.size 23 (nums .u8 (List.replicate 32 0))
  lst : Row wr gl 27 #[.slice A n c]
  fn : Row wr gf 106 #[halfF gl gf]
  hl : HL wr w.heap.size A ls
  tab : Tab wr
  below : Below w.heap.size w wr
theorem HalfH.next {w wr w1 : World} {gl gf : Nat} {A : Option Addr} {n c : Nat} {ls : List (List Int)} (h : HalfH w wr gl gf A n c ls) (hb : Below wr.heap.size wr w1) : HalfH w w1 gl gf A n c ls :=
  ⟨h.out.next hb, h.lst.next hb, h.fn.next hb, h.hl.next hb h.below.size, h.tab.next hb, below_new h.below hb⟩
theorem HalfH.drew {w wr : World} {gl gf : Nat} {A : Option Addr} {n c : Nat} {ls : List (List Int)} (h : HalfH w wr gl gf A n c ls) : HalfH w wr.drew gl gf A n c ls := ⟨h.out.drew, h.lst.drew, h.fn.drew, h.hl, h.tab, h.below.drew⟩
theorem HalfH.start {w : World} {gl gf : Nat} {A : Option Addr} {n c : Nat} {ls : List (List Int)} (h1 : Row w gl 27 #[.slice A n c]) (h2 : Row w gf 106 #[halfF gl gf]) (h3 : HL w w.heap.size A ls) (h4 : Tab w) :
    HalfH w (w.alloc (.cells (nums .u8 (List.replicate 32 0)) 23)) gl gf A n c ls :=
  ⟨Row.made _ _ _, h1.alloc _, h2.alloc _, h3.next ((Below.refl _ _).alloc (Nat.le_refl _) _) (Nat.le_refl _), h4.next ((Below.refl _ _).alloc (Nat.le_refl _) _), (Below.refl _ _).alloc (Nat.le_refl _) _⟩
attribute [local go_sem ↓ high] read_at write_at
set_option maxHeartbeats 4000000 in
set_option maxRecDepth 100000 in
theorem half_any (ls : List (List Int)) (hh : hashes ls) (A : Option Addr) (c gl gf : Nat) (hm : ls.length ≤ 9223372036854775807) (k : Nat) : ∀ (a b : Nat) (w : World), a < b → b ≤ ls.length → b - a ≤ k → Tab w →
    Row w gl 27 #[.slice A ls.length c] → Row w gf 106 #[halfF gl gf] → HL w w.heap.size A ls →
    Calls Tryd.prog 75 #[.int .i64 (a : Int), .int .i64 (b : Int), .pointer (some ⟨gl, 0, none⟩), .pointer (some ⟨gf, 0, none⟩)] w fun ev w' => ev = .returned (.agg (nums .u8 (rootL (part ls a b)))) ∧ Below w.heap.size w w' := by
  induction k with
  | zero => intro a b w h1 h2 h3; omega
  | succ k ih =>
    intro a b w h1 h2 h3 hT hl hf hA
    obtain ⟨n, hn⟩ : ∃ n, Hid (n = ls.length) := ⟨_, Lib.hid rfl⟩
    have hbn : b ≤ n := by rw [hn.out]; exact h2
    have hnm : n ≤ 9223372036854775807 := by rw [hn.out]; exact hm
    rw [← hn.out] at hl
    obtain ⟨C, hC⟩ : ∃ C, Hid (C = nums .u8 (rootL (part ls a b))) := ⟨_, Lib.hid rfl⟩
    have hp : hashes (part ls a b) := hashes_take (hashes_drop hh _) _
    have zC : Hid (C.size = 32) := Lib.hid (by rw [hC.out, nums_size]; exact (rootL_is _ hp).1)
    have oC : Hid (C.all (·.oneCell') = true) := Lib.hid (by rw [hC.out]; exact nums_one _ _)
    have zZ : Hid ((nums .u8 (List.replicate 32 0)).size = 32) := Lib.hid (by rw [nums_size]; simp)
    have HS := Lib.hid (HalfH.start hl hf hA hT)
    obtain ⟨ad, rfl⟩ := hA.some a (by omega)
    by_cases h : b = a + 1
    · have e1 : Hid (C = nums .u8 (ls.getD a [])) := Lib.hid (by rw [hC.out, part_one ls a b h h2])
      have hd : ((b : Int) - (a : Int) == 1) = true := by rw [h]; simp; omega
      have hd2 : (b : Int) - (a : Int) = 1 := by omega
      have i0 : (0 : Int) ≤ (a : Int) := by omega
      have i1 : (a : Int) < (n : Int) := by omega
      have ha2 : a < ls.length := by omega
      have h6 := sizeH C.size zC.out
      clear hT hl hf hA ih h1 h2 h3 h hm hp
      go_enter Tryd.func75, Tryd.ntmps75
      go_upto_region 1 with fail
      refine world_gen (fun wx => HalfH w wx gl gf (some ad) n c ls) HS.out (fun wx HQ => ?_)
      have HQ := Lib.hid HQ
      have s1 := HQ.out.hl.read hh a ha2
      rw [← e1.out] at s1
      have c1 := HQ.out.lst.cell 0
      go_wp2_with (refine wpList_store_row rfl 23 _ _ rfl w.heap.size C rfl rfl 23 _ HQ.out.out h6 (by rw [zC.out, zZ.out]) oC.out ?_)
      refine bodyPost_ret (results_cell_row rfl _ _ w.heap.size 23 _ (0, 0) _ rfl (HQ.out.out.whole _) Tryd.underlying23 rfl h6) rfl ⟨by rw [hC.out], below_setRow HQ.out.below (Nat.le_refl _)⟩
    · obtain ⟨q, hq⟩ : ∃ q, Hid (q = splitN (b - a)) := ⟨_, Lib.hid rfl⟩
      have hq1 : 0 < q := by rw [hq.out]; exact splitN_pos _ (by omega)
      have hq2 : a + q < b := by have := splitN_lt (b - a) (by omega); rw [hq.out]; omega
      have e1 : Hid (C = nums .u8 (nodeL (rootL (part ls a (a + q))) (rootL (part ls (a + q) b)))) := Lib.hid (by rw [hC.out, part_more ls a b (by omega) h2, hq.out])
      have S1 : Hid (∀ W, Calls Tryd.prog 76 #[.int .i64 ((b : Int) - (a : Int))] W fun ev w' => ev = .returned (.int .i64 (q : Int)) ∧ W = w') := Lib.hid fun W =>
        (split_any ((b : Int) - (a : Int)) (by omega) W).mono fun ev w' ⟨he, hw⟩ => ⟨by rw [he]; unfold splitI; rw [show ((b : Int) - (a : Int)).toNat = b - a by omega, hq.out], hw⟩
      obtain ⟨L, hL⟩ : ∃ L, Hid (L = nums .u8 (rootL (part ls a (a + q)))) := ⟨_, Lib.hid rfl⟩
      obtain ⟨R, hR⟩ : ∃ R, Hid (R = nums .u8 (rootL (part ls (a + q) b))) := ⟨_, Lib.hid rfl⟩
      have X1 : Hid (∀ W, HalfH w W gl gf (some ad) n c ls → Calls Tryd.prog 75 #[.int .i64 (a : Int), .int .i64 ((a : Int) + (q : Int)), .pointer (some ⟨gl, 0, none⟩), .pointer (some ⟨gf, 0, none⟩)] W fun ev w' => ev = .returned (.agg L) ∧ Below W.heap.size W w') := Lib.hid fun W H => by
        rw [hL.out]
        have := ih a (a + q) W (by omega) (by omega) (by omega) H.tab (by rw [← hn.out]; exact H.lst) H.fn (H.hl.more H.below.size)
        rwa [Int.natCast_add] at this
      have X2 : Hid (∀ W, HalfH w W gl gf (some ad) n c ls → Calls Tryd.prog 75 #[.int .i64 ((a : Int) + (q : Int)), .int .i64 (b : Int), .pointer (some ⟨gl, 0, none⟩), .pointer (some ⟨gf, 0, none⟩)] W fun ev w' => ev = .returned (.agg R) ∧ Below W.heap.size W w') := Lib.hid fun W H => by
        rw [hR.out]
        have := ih (a + q) b W (by omega) (by omega) (by omega) H.tab (by rw [← hn.out]; exact H.lst) H.fn (H.hl.more H.below.size)
        rwa [Int.natCast_add] at this
      have X3 : Hid (∀ W, Tab W → Calls Tryd.prog 77 #[.agg L, .agg R] W fun ev w' => ev = .returned (.agg C) ∧ Below W.heap.size W w') := Lib.hid fun W H => by
        rw [e1.out, hL.out, hR.out]
        exact node_any _ _ (rootL_is _ (hashes_take (hashes_drop hh _) _)).1 (rootL_is _ (hashes_take (hashes_drop hh _) _)).1 W H
      have hd : ((b : Int) - (a : Int) == 1) = false := by simp; omega
      have hd2 : ¬ ((b : Int) - (a : Int) = 1) := by omega
      have b1 : (b : Int) ≤ 9223372036854775807 := by omega
      have b2 : (a : Int) + (q : Int) < (b : Int) := by omega
      have h6 := sizeH C.size zC.out
      clear hT hl hf hA ih h1 h2 h3 h hm hp hq1 hq2 hL hR e1 hbn hnm
      go_enter Tryd.func75, Tryd.ntmps75
      go_upto_region 1 with fail
      refine world_gen (fun wx => HalfH w wx gl gf (some ad) n c ls) HS.out (fun wx HQ => ?_)
      have HQ := Lib.hid HQ.drew
      go_upto_region 4 with (go_at_call 76; (with_reducible refine (S1.out _).mono ?_); rintro e w' ⟨rfl, rfl⟩)
      have c1 : wx.drew.cell? ⟨gf, 0, none⟩ = some (.func (.func 75) #[] #[.pointer (some ⟨gl, 0, none⟩), .pointer (some ⟨gf, 0, none⟩)]) := HQ.out.fn.cell 0
      go_region_with (first
        | (go_at_call 75; (first | (with_reducible refine (X1.out _ HQ.out).mono ?_) | (with_reducible refine (X2.out _ HQ.out).mono ?_)); rintro e w1 ⟨rfl, hb⟩; have HQ := Lib.hid (HQ.out.next hb); clear hb c1; have c1 : w1.cell? ⟨gf, 0, none⟩ = some (.func (.func 75) #[] #[.pointer (some ⟨gl, 0, none⟩), .pointer (some ⟨gf, 0, none⟩)]) := HQ.out.fn.cell 0)
        | (go_at_call 77; (with_reducible refine (X3.out _ HQ.out.tab).mono ?_); rintro e w2 ⟨rfl, hb⟩; have HQ := Lib.hid (HQ.out.next hb); clear hb c1; have s3 := HQ.out.out.write zZ.out zC.out oC.out))
      all_goals
        go_wp2
        refine bodyPost_ret (results_cell_row rfl _ _ w.heap.size 23 _ (0, 0) _ rfl (HQ.out.out.whole _) Tryd.underlying23 rfl h6) rfl ⟨by rw [hC.out], below_setRow HQ.out.below (Nat.le_refl _)⟩
end Go.Proofs.YtpndccoikhejgaaDoor
