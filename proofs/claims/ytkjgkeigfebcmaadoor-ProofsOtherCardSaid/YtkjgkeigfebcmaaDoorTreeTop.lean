/-
  The walk of the program's Root (layer 4). Conditions: the two tables as they were laid, a list of hashes in memory. What it makes is new memory; nothing that was there changes.
-/
import Derived.Test.YtkjgkeigfebcmaaDoorTreeRoot
import Derived.Laws.EntriesVeiled
namespace Go.Proofs.YtkjgkeigfebcmaaDoor
open Go.RowKit
set_option linter.unusedVariables false
set_option maxRecDepth 100000

/-- What Root holds: its list, its result. -/
structure TopH (w wr : World) (A : Option Addr) (n c : Nat) (ls : List (List Int)) : Prop where
  lst : Row wr w.heap.size 22 #[.slice A n c]
  out : Row wr (w.heap.size + 1) 30 (nums .u8 (List.replicate 32 0))
  hl : HL wr w.heap.size A ls
  tab : Tab wr
  below : Below w.heap.size w wr
theorem TopH.next {w wr w1 : World} {A : Option Addr} {n c : Nat} {ls : List (List Int)} (h : TopH w wr A n c ls) (hb : Below wr.heap.size wr w1) : TopH w w1 A n c ls :=
  ⟨h.lst.next hb, h.out.next hb, h.hl.next hb h.below.size, h.tab.next hb, below_new h.below hb⟩
theorem TopH.start {w : World} {A : Option Addr} {n c : Nat} {ls : List (List Int)} (h3 : HL w w.heap.size A ls) (h4 : Tab w) :
    TopH w ((w.alloc (.cells #[.slice A n c] 22)).alloc (.cells (nums .u8 (List.replicate 32 0)) 30)) A n c ls := by
  have hb : Below w.heap.size w ((w.alloc (.cells #[.slice A n c] 22)).alloc (.cells (nums .u8 (List.replicate 32 0)) 30)) := ((Below.refl _ _).alloc (Nat.le_refl _) _).alloc (by simp) _
  exact ⟨(Row.made _ _ _).alloc _, Row.made2 _ _ _ _, h3.next hb (Nat.le_refl _), h4.next hb, hb⟩
theorem TopH.fn {w wr : World} {A : Option Addr} {n c : Nat} {ls : List (List Int)} (h : TopH w wr A n c ls) (v : Value) : TopH w (wr.alloc (.cells #[v] 47)) A n c ls ∧ Row (wr.alloc (.cells #[v] 47)) wr.heap.size 47 #[v] :=
  ⟨h.next ((Below.refl _ _).alloc (Nat.le_refl _) _), Row.made _ _ _⟩
attribute [local go_sem ↓ high] read_at write_at
set_option maxHeartbeats 4000000 in
set_option maxRecDepth 100000 in
theorem root_any (ls : List (List Int)) (hh : hashes ls) (A : Option Addr) (c : Nat) (w : World) (hA : HL w w.heap.size A ls) (hT : Tab w) (hm : ls.length ≤ 9223372036854775807) :
    Calls Tryd.prog 14 #[.slice A ls.length c] w fun ev w' => ev = .returned (.agg (nums .u8 (rootL ls))) ∧ Below w.heap.size w w' := by
  obtain ⟨n, hn⟩ : ∃ n, Hid (n = ls.length) := ⟨_, Lib.hid rfl⟩
  have hnm : n ≤ 9223372036854775807 := by rw [hn.out]; exact hm
  obtain ⟨C, hC⟩ : ∃ C, Hid (C = nums .u8 (rootL ls)) := ⟨_, Lib.hid rfl⟩
  have zC : Hid (C.size = 32) := Lib.hid (by rw [hC.out, nums_size]; exact (rootL_is _ hh).1)
  have oC : Hid (C.all (·.oneCell') = true) := Lib.hid (by rw [hC.out]; exact nums_one _ _)
  have zZ : Hid ((nums .u8 (List.replicate 32 0)).size = 32) := Lib.hid (by rw [nums_size]; simp)
  have h6 := sizeH C.size zC.out
  rw [← hn.out]
  have HS := Lib.hid (TopH.start (n := n) (c := c) hA hT)
  have HM := Lib.hid hm
  clear hA hT hm
  by_cases h0 : n = 0
  · have S1 : Hid (∀ W, Tab W → Calls Tryd.prog 22 #[.string ⟨#[]⟩] W fun ev w' => ev = .returned (.agg C) ∧ Below W.heap.size W w') := Lib.hid fun W h => by
      rw [hC.out, rootL_none ls (by rw [← hn.out]; exact h0)]; exact sum_any ⟨#[]⟩ (by decide) W h
    have hd : ((n : Int) == 0) = true := by rw [h0]; rfl
    clear h0
    go_enter Tryd.func14, Tryd.ntmps14
    go_upto_region 1 with fail
    refine world_gen (fun wx => TopH w wx A n c ls) HS.out (fun wx HQ => ?_)
    have HQ := Lib.hid HQ
    have c1 := HQ.out.lst.cell 0
    go_wp2_with (first
      | (go_at_call 22; (with_reducible refine (S1.out _ HQ.out.tab).mono ?_); rintro e w1 ⟨rfl, hb⟩; have HQ := Lib.hid (HQ.out.next hb); clear hb)
      | (refine wpList_store_row rfl 30 _ _ rfl (w.heap.size + 1) C rfl rfl 30 _ HQ.out.out h6 (by rw [zC.out, zZ.out]) oC.out ?_))
    refine bodyPost_ret (results_cell_row rfl _ _ (w.heap.size + 1) 30 _ (0, 0) _ rfl (HQ.out.out.whole _) Tryd.underlying30 rfl h6) rfl ⟨by rw [hC.out], below_setRow HQ.out.below (by omega)⟩
  · have hd : ((n : Int) == 0) = false := by simp; omega
    have X1 : Hid (∀ W gf, TopH w W A n c ls → Row W gf 47 #[halfF w.heap.size gf] → Calls Tryd.prog 23 #[.int .i64 0, .int .i64 (n : Int), .pointer (some ⟨w.heap.size, 0, none⟩), .pointer (some ⟨gf, 0, none⟩)] W fun ev w' => ev = .returned (.agg C) ∧ Below W.heap.size W w') := Lib.hid fun W gf H h2 => by
      have := half_any ls hh A c w.heap.size gf HM.out n 0 n W (by omega) (by rw [hn.out]; exact Nat.le_refl _) (by omega) H.tab (by rw [← hn.out]; exact H.lst) h2 (H.hl.more H.below.size)
      have e : part ls 0 n = ls := by rw [hn.out]; exact part_all ls
      rw [e] at this
      rw [hC.out]
      exact this
    clear h0
    go_enter Tryd.func14, Tryd.ntmps14
    go_upto_region 1 with fail
    refine world_gen (fun wx => TopH w wx A n c ls) HS.out (fun wx HQ => ?_)
    have HQ := Lib.hid HQ
    have c1 := HQ.out.lst.cell 0
    go_upto_region 5 with fail
    refine world_gen (fun wy => TopH w wy A n c ls ∧ Row wy wx.heap.size 47 #[halfF w.heap.size wx.heap.size]) (HQ.out.fn _) (fun wy HP => ?_)
    clear c1 HQ
    have HP := Lib.hid HP
    have c1 := HP.out.1.lst.cell 0
    have c2 : wy.cell? ⟨wx.heap.size, 0, none⟩ = some (.func (.func 23) #[] #[.pointer (some ⟨w.heap.size, 0, none⟩), .pointer (some ⟨wx.heap.size, 0, none⟩)]) := HP.out.2.cell 0
    go_wp2_with (first
      | (go_at_call 23; (with_reducible refine (X1.out _ _ HP.out.1 HP.out.2).mono ?_); rintro e w1 ⟨rfl, hb⟩; have HQ := Lib.hid (HP.out.1.next hb); clear hb)
      | (refine wpList_store_row rfl 30 _ _ rfl (w.heap.size + 1) C rfl rfl 30 _ HQ.out.out h6 (by rw [zC.out, zZ.out]) oC.out ?_))
    refine bodyPost_ret (results_cell_row rfl _ _ (w.heap.size + 1) 30 _ (0, 0) _ rfl (HQ.out.out.whole _) Tryd.underlying30 rfl h6) rfl ⟨by rw [hC.out], below_setRow HQ.out.below (by omega)⟩
end Go.Proofs.YtkjgkeigfebcmaaDoor
