/-
  The walks of Of and Append (layer 5): the range of leaves, and one leaf more. Conditions: the two tables as they were laid, lists of hashes in memory. What they make is new memory; nothing that was there changes.
-/
import Derived.Test.YtfakimbneenfdaaDoorRangeExt
namespace Go.Proofs.YtfakimbneenfdaaDoor
open Go.RowKit
set_option linter.unusedVariables false
set_option maxRecDepth 100000

theorem HL.one {w : World} {g : Nat} {t : TypeId} {x : List Int} (h : Row w g t (nums .u8 x)) (hx : x.length = 32) : HL w w.heap.size (.some ⟨g, 0, none⟩) [x] := by
  intro i hi
  have e : i = 0 := by simpa using hi
  subst e
  refine ⟨_, rfl, h.lt, fun j hj => ?_⟩
  rw [add_flat, h.cell, Nat.zero_mul, Nat.zero_add, nums_get .u8 x j (by omega)]
  rfl
/-- The result is written into the block that was made for it. -/
theorem own_result {w w1 w2 : World} {g : Nat} {r : Int × List (List Int) × Int} {A' : Option Addr} {c' : Nat} (hb : Below w.heap.size w w1) (hr : Row w1 g 24 #[.int .i64 0, .slice none 0 0]) (hg : w.heap.size ≤ g) (ho : OwnL w1 w2 (.slice A' r.2.1.length c') r.2.1.length r.2.1) :
    Row ((w2.setCell ⟨g, 0, none⟩ (.int .i64 r.1)).setCell ⟨g, 1, none⟩ (.slice A' r.2.1.length c')) g 24 #[.int .i64 r.1, .slice A' r.2.1.length c'] ∧
    OwnL w ((w2.setCell ⟨g, 0, none⟩ (.int .i64 r.1)).setCell ⟨g, 1, none⟩ (.slice A' r.2.1.length c')) (.slice A' r.2.1.length c') r.2.1.length r.2.1 := by
  have h1 := hr.next ho.2
  have hlt := hr.lt
  refine ⟨(h1.put 0 _).put 1 _, own_base (own_at ho.1 (fun b hb _ => (Below.heap_setCell _ _ _ b (by show b ≠ g; omega)).trans (Below.heap_setCell _ _ _ b (by show b ≠ g; omega)))) hb.size, ?_⟩
  exact ((below_new hb ho.2).setCell hg _).setCell hg _
set_option maxHeartbeats 2000000 in
theorem of_any (w : World) (hT : Tab w) (LA : Option Addr) (lc : Nat) (ls : List (List Int)) (hl : hashes ls) (hL : HL w w.heap.size LA ls) (hlc : ls.length ≤ lc) (hlm : lc ≤ maxLen) :
    Calls Tryd.prog 25 #[.slice LA ls.length lc] w (GivesR w (extF 0 [] ls)) := by
  obtain ⟨m, hm⟩ : ∃ m, Hid (m = ls.length) := ⟨_, Lib.hid rfl⟩
  obtain ⟨r, hr⟩ : ∃ r, Hid (r = extF 0 [] ls) := ⟨_, Lib.hid rfl⟩
  have X1 : Hid (∀ W, Below w.heap.size w W → Calls Tryd.prog 13 #[.agg #[.int .i64 0, .slice none 0 0], .slice LA m lc] W fun e w' => ∃ A c, e = .returned (.tuple #[.agg #[.int .i64 r.1, .slice A r.2.1.length c], .int .i64 r.2.2]) ∧ OwnL W w' (.slice A r.2.1.length c) r.2.1.length r.2.1) := Lib.hid fun W hW => by
    rw [hr.out, hm.out]
    exact extend_any W (hT.next hW) 0 (by decide) none 0 [] (fun _ h => nomatch h) (HL.nil _ _ _) LA lc ls hl (hL.from hW) hlc hlm
  rw [← hm.out, ← hr.out]
  obtain ⟨x, hx⟩ : ∃ x, Hid (x = r.1) := ⟨_, Lib.hid rfl⟩
  obtain ⟨y, hy⟩ : ∃ y, Hid (y = r.2.1.length) := ⟨_, Lib.hid rfl⟩
  obtain ⟨z, hz⟩ : ∃ z, Hid (z = r.2.2) := ⟨_, Lib.hid rfl⟩
  rw [← hx.out, ← hy.out, ← hz.out] at X1
  clear hT hL hl hlc hlm
  go_enter Tryd.func25, Tryd.ntmps25
  go_upto_region 1 with fail
  refine world_gen (fun wx => Row wx w.heap.size 24 #[.int .i64 0, .slice none 0 0] ∧ Below w.heap.size w wx) ⟨Row.made _ _ _, (Below.refl _ _).alloc (Nat.le_refl _) _⟩ (fun wx HX => ?_)
  have HX := Lib.hid HX
  have HBX := Lib.hid HX.out.2
  go_wp2_with (go_at_call 13; (with_reducible refine (X1.out _ HBX.out).mono ?_); rintro e w2 ⟨A', c', rfl, ho⟩; have HO := Lib.hid ho; have hq := HX.out.1.next ho.2; clear ho; have d0 := hq.cell 0; have d1 := hq.cell 1; have f0 := hq.free 0; have f1 := hq.free 1; clear hq)
  have HD := own_result (r := r) HBX.out HX.out.1 (Nat.le_refl _) (by rw [← hy.out]; exact HO.out)
  rw [← hx.out, ← hy.out] at HD
  have q0 := HD.1.cell 0
  have q1 := HD.1.cell 1
  refine bodyPost_ret (v := .tuple #[.agg #[.int .i64 x, .slice A' y c'], .int .i64 z]) (by simp [results, Tryd.results25, go_sem, q0, q1]) rfl ?_
  exact ⟨A', c', by rw [← hx.out, ← hy.out, ← hz.out], by rw [← hy.out]; exact HD.2⟩
/-- What Append holds: its range, its leaf, its result. -/
def AppH (w wr : World) (s : Int) (A : Option Addr) (n c : Nat) (x : List Int) : Prop := Row wr w.heap.size 24 #[.int .i64 s, .slice A n c] ∧ Row wr (w.heap.size + 1) 31 (nums .u8 x) ∧ Row wr (w.heap.size + 2) 24 #[.int .i64 0, .slice none 0 0] ∧ Below w.heap.size w wr
attribute [local go_sem ↓ high] read_at
set_option maxHeartbeats 2000000 in
theorem append_any (w : World) (hT : Tab w) (s : Int) (hs64 : -9223372036854775808 ≤ s ∧ s ≤ 9223372036854775807) (A : Option Addr) (c : Nat) (hs : List (List Int)) (hh : hashes hs) (hA : HL w w.heap.size A hs) (x : List Int) (hx : x.length = 32 ∧ bytes x) :
    Calls Tryd.prog 28 #[.agg #[.int .i64 s, .slice A hs.length c], .agg (nums .u8 x)] w (GivesR w (extF s hs [x])) := by
  obtain ⟨n, hn⟩ : ∃ n, Hid (n = hs.length) := ⟨_, Lib.hid rfl⟩
  obtain ⟨r, hr⟩ : ∃ r, Hid (r = extF s hs [x]) := ⟨_, Lib.hid rfl⟩
  have X1 : Hid (∀ W g, Below w.heap.size w W → Row W g 31 (nums .u8 x) → Calls Tryd.prog 13 #[.agg #[.int .i64 s, .slice A n c], .slice (some ⟨g, 0, none⟩) 1 1] W fun e w' => ∃ A c, e = .returned (.tuple #[.agg #[.int .i64 r.1, .slice A r.2.1.length c], .int .i64 r.2.2]) ∧ OwnL W w' (.slice A r.2.1.length c) r.2.1.length r.2.1) := Lib.hid fun W g hW hg => by
    rw [hr.out, hn.out]
    exact extend_any W (hT.next hW) s hs64 A c hs hh (hA.from hW) (some ⟨g, 0, none⟩) 1 [x] (fun l h => by rw [List.mem_singleton.1 h]; exact hx) (HL.one hg hx.1) (Nat.le_refl _) (by decide)
  rw [← hn.out, ← hr.out]
  obtain ⟨x1, hx1⟩ : ∃ x, Hid (x = r.1) := ⟨_, Lib.hid rfl⟩
  obtain ⟨y, hy⟩ : ∃ y, Hid (y = r.2.1.length) := ⟨_, Lib.hid rfl⟩
  obtain ⟨z, hz⟩ : ∃ z, Hid (z = r.2.2) := ⟨_, Lib.hid rfl⟩
  obtain ⟨C, hC⟩ : ∃ C, Hid (C = nums .u8 x) := ⟨_, Lib.hid rfl⟩
  have zC : Hid (C.size = 32) := Lib.hid (by rw [hC.out, nums_size]; exact hx.1)
  rw [← hx1.out, ← hy.out, ← hz.out, ← hC.out] at X1
  have HB : Hid (AppH w (((w.alloc (.cells #[.int .i64 s, .slice A n c] 24)).alloc (.cells C 31)).alloc (.cells #[.int .i64 0, .slice none 0 0] 24)) s A n c x) := Lib.hid
    ⟨((Row.made _ _ _).alloc _).alloc _, by rw [← hC.out]; exact (Row.made2 _ _ _ _).alloc _, by have := Row.made ((w.alloc (.cells #[.int .i64 s, .slice A n c] 24)).alloc (.cells C 31)) 24 #[.int .i64 0, .slice none 0 0]; simpa using this, (((Below.refl _ _).alloc (Nat.le_refl _) _).alloc (by simp) _).alloc (by simp; omega) _⟩
  rw [← hC.out]
  clear hT hA hh hx
  go_enter Tryd.func28, Tryd.ntmps28
  go_upto_region 1 with fail
  refine world_gen (fun wx => AppH w wx s A n c x) HB.out (fun wx HX => ?_)
  clear HB
  have HX := Lib.hid HX
  have c0 := HX.out.1.cell 0
  have c1 := HX.out.1.cell 1
  have s1 := HX.out.2.1
  rw [← hC.out] at s1
  have s1 := s1.read zC.out
  have HBX : Hid (Below w.heap.size w (wx.alloc (.cells C 31))) := Lib.hid (HX.out.2.2.2.alloc HX.out.2.2.2.size _)
  have HRX := Lib.hid (Row.made wx 31 C)
  have HOX := Lib.hid (HX.out.2.2.1.next ((Below.refl wx.heap.size wx).alloc (Nat.le_refl _) (.cells C 31)))
  go_wp2_with (first
    | (refine wpList_buildOne rfl _ rfl C rfl zC.out ?_)
    | (go_at_call 13; (with_reducible refine (X1.out _ _ HBX.out HRX.out).mono ?_); rintro e w2 ⟨A', c', rfl, ho⟩; have HO := Lib.hid ho; have hq := HOX.out.next ho.2; clear ho; have d0 := hq.cell 0; have d1 := hq.cell 1; have f0 := hq.free 0; have f1 := hq.free 1; clear hq))
  have HD := own_result (r := r) HBX.out HOX.out (by omega) (by rw [← hy.out]; exact HO.out)
  rw [← hx1.out, ← hy.out] at HD
  have q0 := HD.1.cell 0
  have q1 := HD.1.cell 1
  refine bodyPost_ret (v := .tuple #[.agg #[.int .i64 x1, .slice A' y c'], .int .i64 z]) (by simp [results, Tryd.results28, go_sem, q0, q1]) rfl ?_
  exact ⟨A', c', by rw [← hx1.out, ← hy.out, ← hz.out], by rw [← hy.out]; exact HD.2⟩
end Go.Proofs.YtfakimbneenfdaaDoor
