/-
  The walk of the library's Reverse at hashes, of a slice of the caller's own: the hashes stand the other way round; nothing else that was there changes. Condition: a slice of the caller's own.
-/
import Derived.Test.YtkjgkeigfebcmaaDoorListMem
import Derived.Test.YtkjgkeigfebcmaaDoorForkB
import Derived.Test.YtkjgkeigfebcmaaDoorGot
import Derived.Deep.MidRow
namespace Go.Proofs.YtkjgkeigfebcmaaDoor
open Go.RowKit Go.Great
set_option linter.unusedVariables false
set_option maxRecDepth 100000

theorem setL_hashes {ls : List (List Int)} (h : hashes ls) (k : Nat) (l : List Int) (hl : l.length = 32 ∧ bytes l) : hashes (ls.set k l) := fun x hx => by
  rcases List.mem_or_eq_of_mem_set hx with hx | rfl
  · exact h x hx
  · exact hl
theorem setL_getD (ls : List (List Int)) (k i : Nat) (l : List Int) (hi : i < ls.length) : (ls.set k l).getD i [] = if i = k then l else ls.getD i [] := by
  rw [List.getD_eq_getElem?_getD, List.getElem?_set]
  by_cases h : k = i
  · subst h; rw [if_pos rfl, if_pos hi, if_pos rfl]; rfl
  · rw [if_neg h, if_neg (fun e => h e.symm), ← List.getD_eq_getElem?_getD]
theorem own_room {w : World} {base g n cap : Nat} {xs : List Value} (h : w.ownsRow base 30 32 (.slice (some ⟨g, 0, none⟩) n cap) n xs) (k : Nat) (hk : k < n) : w.there g (k * 32) 32 := by
  rcases h.2 with ⟨h0, _⟩ | ⟨g', cap', cur, hv, hb, hg, hn, _, hsz, _⟩
  · cases h0
  · cases hv
    refine fun j hj => ⟨?_, frozen_of_row w g _ cur _ hg⟩
    rw [cell_of_row w g _ cur _ _ hg, Array.getElem?_eq_getElem (by rw [hsz]; have := Nat.mul_le_mul_right 32 (show k + 1 ≤ cap by omega); omega)]
    rfl
/-- A hash into a place of a slice. -/
theorem HL.set {wr : World} {B g : Nat} {ls : List (List Int)} (h : HL wr B (Option.some ⟨g, 0, none⟩) ls) (k : Nat) (hk : k < ls.length) (x : List Int) (hx : x.length = 32) (ht : wr.there g (k * 32) 32) : HL (wr.setCells g (k * 32) (nums .u8 x).toList) B (Option.some ⟨g, 0, none⟩) (ls.set k x) := by
  have hvl : (nums .u8 x).toList.length = 32 := by rw [Array.length_toList, nums_size, hx]
  intro i hi
  rw [List.length_set] at hi
  obtain ⟨ad, e, hlt, hc⟩ := h i hi
  cases e
  refine ⟨_, rfl, hlt, fun j hj => ?_⟩
  have hcj := hc j hj
  rw [add_flat] at hcj ⊢
  rw [setL_getD ls k i x hi]
  by_cases hik : i = k
  · subst hik
    rw [if_pos rfl, World.cell?_setCells_in g _ _ wr (fun q hq => (ht q (by omega)).1) j (by omega)]
    have e := nums_get .u8 x j (by omega)
    rw [← Array.getElem?_toList, List.getElem?_eq_getElem (by omega)] at e
    exact e
  · rw [if_neg hik, World.cell?_setCells_out g _ _ wr ⟨g, i * 32 + j, none⟩ (fun _ _ => by
      rw [hvl]
      rcases Nat.lt_or_gt_of_ne hik with h' | h'
      · left; have := Nat.mul_le_mul_right 32 (show i + 1 ≤ k by omega); show i * 32 + j < k * 32; omega
      · right; have := Nat.mul_le_mul_right 32 (show k + 1 ≤ i by omega); show k * 32 + 32 ≤ i * 32 + j; omega)]
    exact hcj
theorem size_setCells (b : Nat) : ∀ (vs : List Value) (o : Nat) (w : World), (w.setCells b o vs).heap.size = w.heap.size
  | [], _, _ => rfl
  | v :: r, o, w => by rw [World.setCells, size_setCells b r]; simp
/-- The first k and the last k have changed places. -/
def Rev (ls ms : List (List Int)) (k : Nat) : Prop := ms.length = ls.length ∧ hashes ms ∧ ∀ t, t < ls.length → ms.getD t [] = if t < k ∨ ls.length - k ≤ t then ls.getD (ls.length - 1 - t) [] else ls.getD t []
theorem Rev.start {ls : List (List Int)} (h : hashes ls) : Rev ls ls 0 := ⟨rfl, h, fun t ht => by rw [if_neg (by omega)]⟩
theorem Rev.step {ls ms : List (List Int)} {k j : Nat} (h : Rev ls ms k) (hj : j = ls.length - 1 - k) (hkj : k < j) : Rev ls ((ms.set k (ms.getD j [])).set j (ms.getD k [])) (k + 1) := by
  obtain ⟨h1, h2, h3⟩ := h
  have hk := hashes_at h2 k (by omega)
  have hjj := hashes_at h2 j (by omega)
  refine ⟨by rw [List.length_set, List.length_set, h1], setL_hashes (setL_hashes h2 k _ hjj) j _ hk, fun t ht => ?_⟩
  have e1 := h3 k (by omega)
  have e2 := h3 j (by omega)
  have e3 := h3 t ht
  rw [if_neg (by omega)] at e1 e2
  rw [setL_getD _ _ _ _ (by rw [List.length_set, h1]; exact ht), setL_getD _ _ _ _ (by rw [h1]; exact ht)]
  by_cases ht1 : t = j
  · subst ht1
    rw [if_pos rfl, if_pos (by omega), e1]
    congr 1; omega
  · rw [if_neg ht1]
    by_cases ht2 : t = k
    · subst ht2
      rw [if_pos rfl, if_pos (by omega), e2, hj]
    · rw [if_neg ht2, e3]
      by_cases hc : t < k ∨ ls.length - k ≤ t
      · rw [if_pos hc, if_pos (by omega)]
      · rw [if_neg hc, if_neg (by omega)]
theorem Rev.done {ls ms : List (List Int)} {k : Nat} (h : Rev ls ms k) (hk : ls.length ≤ 2 * k + 1) : ms = ls.reverse := by
  obtain ⟨h1, h2, h3⟩ := h
  refine List.ext_getElem (by rw [h1, List.length_reverse]) (fun t ht1 ht2 => ?_)
  have e := h3 t (by omega)
  rw [List.getD_eq_getElem?_getD, List.getElem?_eq_getElem ht1] at e
  simp only [Option.getD_some] at e
  rw [e, List.getElem_reverse]
  split
  · rw [List.getD_eq_getElem?_getD, List.getElem?_eq_getElem (by omega)]; rfl
  · rw [List.getD_eq_getElem?_getD, List.getElem?_eq_getElem (by omega)]
    show ls[t] = _
    congr 1; omega
attribute [local go_sem ↓ high] read_at write_at
set_option maxHeartbeats 8000000 in
theorem reverse_any (ls : List (List Int)) (hh : hashes ls) (A : Option Addr) (c : Nat) (w : World) (B : Nat) (ho : w.ownsRow B 30 32 (.slice A ls.length c) ls.length (cellsL ls)) :
    Calls Tryd.prog 17 #[.slice A ls.length c] w fun e w' => (∃ v, e = .returned v) ∧ HL w' w'.heap.size A ls.reverse ∧ Below B w w' := by
  obtain ⟨n, hn⟩ : ∃ n, Hid (n = ls.length) := ⟨_, Lib.hid rfl⟩
  have hcm := own_some ho
  have hnm : n ≤ 9223372036854775807 := by rw [hn.out]; omega
  have H0 : Hid (HL w w.heap.size A ls) := Lib.hid (own_HL ho hh)
  have HR : Hid (∀ g, A = some ⟨g, 0, none⟩ → B ≤ g ∧ ∀ k, k < n → w.there g (k * 32) 32) := Lib.hid fun g hg => by
    rcases hcm.2.2 with ⟨h1, _⟩ | ⟨g', h1, h2, _⟩
    · rw [h1] at hg; cases hg
    · rw [h1] at hg
      cases hg
      exact ⟨h2, fun k hk => by rw [hn.out] at hk; subst h1; exact own_room ho k hk⟩
  have HG : Hid (0 < n → ∃ g, A = some ⟨g, 0, none⟩) := Lib.hid fun h => by
    rcases hcm.2.2 with ⟨h1, h2⟩ | ⟨g', h1, h2, _⟩
    · rw [hn.out] at h; omega
    · exact ⟨g', h1⟩
  have HV : Hid (Rev ls ls 0) := Lib.hid (Rev.start hh)
  rw [← hn.out]
  clear ho hcm hh
  go_enter Tryd.func17, Tryd.ntmps17
  go_wp2
  go_loopw [2, 3] (fun s2 s3 wr => ∃ (k : Nat) (ms : List (List Int)), s2 = .int .i64 (k : Int) ∧ s3 = .int .i64 ((n : Int) - 1 - (k : Int)) ∧ 2 * k ≤ n + 1 ∧ Hid (Rev ls ms k) ∧ Hid (HL wr wr.heap.size A ms ∧ (∀ g, A = some ⟨g, 0, none⟩ → ∀ k, k < n → wr.there g (k * 32) 32) ∧ Below B w wr)) (fun s2 s3 _ => (intOf s3 - intOf s2 + 1).toNat)
  case atStart => exact ⟨0, ls, rfl, by go_num, by omega, HV, Lib.hid ⟨H0.out, fun g hg => (HR.out g hg).2, Below.refl _ _⟩⟩
  case round =>
    obtain ⟨k, ms, rfl, rfl, hk, HV, HW⟩ := hrel
    by_cases hlt : (k : Int) < (n : Int) - 1 - (k : Int)
    · obtain ⟨g, rfl⟩ := HG.out (by omega)
      obtain ⟨j, hj⟩ : ∃ j : Nat, Hid (j = n - 1 - k) := ⟨_, Lib.hid rfl⟩
      have e0 : (n : Int) - 1 - (k : Int) = (j : Int) := by rw [hj.out]; omega
      rw [e0] at hlt ⊢
      have b1 : (k : Int) < (n : Int) := by omega
      have b2 : (j : Int) < (n : Int) := by rw [hj.out]; omega
      have hwk : IntKind.i64.wrap (k : Int) = (k : Int) := by rw [IntKind.wrap_i64]; omega
      have hwj : IntKind.i64.wrap (j : Int) = (j : Int) := by rw [IntKind.wrap_i64]; omega
      have hml : ms.length = n := by rw [HV.out.1, hn.out]
      obtain ⟨X, hX⟩ : ∃ X, Hid (X = nums .u8 (ms.getD k [])) := ⟨_, Lib.hid rfl⟩
      obtain ⟨Y, hY⟩ : ∃ Y, Hid (Y = nums .u8 (ms.getD j [])) := ⟨_, Lib.hid rfl⟩
      have hxk := hashes_at HV.out.2.1 k (by omega)
      have hyj := hashes_at HV.out.2.1 j (by omega)
      have zX : Hid (X.size = 32) := Lib.hid (by rw [hX.out, nums_size]; exact hxk.1)
      have oX : Hid (X.all (·.oneCell') = true) := Lib.hid (by rw [hX.out]; exact nums_one _ _)
      have zY : Hid (Y.size = 32) := Lib.hid (by rw [hY.out, nums_size]; exact hyj.1)
      have oY : Hid (Y.all (·.oneCell') = true) := Lib.hid (by rw [hY.out]; exact nums_one _ _)
      have HN : Hid (Rev ls ((ms.set k (ms.getD j [])).set j (ms.getD k [])) (k + 1)) := Lib.hid (HV.out.step (by rw [hj.out, hn.out]) (by omega))
      have HW2 : Hid (HL ((wr.drew.setCells g (k * 32) Y.toList).setCells g (j * 32) X.toList) wr.heap.size (some ⟨g, 0, none⟩) ((ms.set k (ms.getD j [])).set j (ms.getD k []))) := Lib.hid (by
        rw [hX.out, hY.out]
        exact HL.set (ls := ms.set k (ms.getD j [])) (HL.set (wr := wr.drew) HW.out.1 k (by omega) _ hyj.1 (HW.out.2.1 g rfl k (by omega))) j (by rw [List.length_set, hml, hj.out]; omega) _ hxk.1 (World.there_setCells (w := wr.drew) (HW.out.2.1 g rfl j (by omega)) _ _ _))
      have HT2 : Hid (∀ k2, k2 < n → ((wr.drew.setCells g (k * 32) Y.toList).setCells g (j * 32) X.toList).there g (k2 * 32) 32) := Lib.hid fun k2 hk2 =>
        World.there_setCells (World.there_setCells (w := wr.drew) (HW.out.2.1 g rfl k2 hk2) _ _ _) _ _ _
      have HB1 : Hid (Below B w (wr.drew.setCells g (k * 32) Y.toList)) := Lib.hid (HW.out.2.2.drew.trans (below_setCells_w (HR.out g rfl).1 _ _ _))
      have HB2 : Hid (Below B w ((wr.drew.setCells g (k * 32) Y.toList).setCells g (j * 32) X.toList)) := Lib.hid (HB1.out.trans (below_setCells_w (HR.out g rfl).1 _ _ _))
      have HZ : Hid (((wr.drew.setCells g (k * 32) Y.toList).setCells g (j * 32) X.toList).heap.size = wr.heap.size) := Lib.hid (by rw [size_setCells, size_setCells]; rfl)
      have T1 : Hid (wr.drew.there g (k * 32) Y.size) := Lib.hid (by rw [zY.out]; exact HW.out.2.1 g rfl k (by omega))
      have T2 : Hid ((wr.drew.setCells g (k * 32) Y.toList).there g (j * 32) X.size) := Lib.hid (by rw [zX.out]; exact World.there_setCells (w := wr.drew) (HW.out.2.1 g rfl j (by omega)) _ _ _)
      have RD : Hid (∀ W, HL W W.heap.size (some ⟨g, 0, none⟩) ms → (readAt (.pointer (some ⟨g, k * 32, none⟩))).run Tryd.prog W = .ok (.agg X) W ∧ (readAt (.pointer (some ⟨g, j * 32, none⟩))).run Tryd.prog W = .ok (.agg Y) W) := Lib.hid fun W h =>
        ⟨by rw [hX.out, ← add_flat]; exact h.read HV.out.2.1 k (by omega), by rw [hY.out, ← add_flat]; exact h.read HV.out.2.1 j (by omega)⟩
      have hx6 := sizeH _ zX.out
      have hy6 := sizeH _ zY.out
      clear hml hxk hyj
      go_upto_region 3 with fail
      refine wp_region_sq (fun W => Below B w W) (fun W => HL W W.heap.size (some ⟨g, 0, none⟩) ms) 13 [(0, 0), (0, 1), (0, 2), (0, 3), (0, 4), (0, 5), (0, 6), (1, 7), (0, 8), (0, 9), (0, 10), (1, 11), (0, 12), (3, 13), (0, 14), (3, 15)] (by kernel_rfl) rfl (by kernel_rfl) (by kernel_rfl) (by intro c a d v w h; cases d <;> exact h) (⟨HW.out.2.2.drew, HW.out.1⟩) (fun Q' hQ => ?_)
      have HQ := Lib.hid hQ
      clear hQ
      refine wpSq_get rfl (by rfl) (fun K hK => ?_)
      refine ⟨?_, fun w' hS' => ?_, ?_⟩
      rotate_left
      · go_simp
        try (with_reducible rfl)
      try go_simp
      refine hK _ ?_
      clear hK K
      refine wpSq_get rfl (by rfl) (fun K hK => ?_)
      refine ⟨?_, fun w' hS' => ?_, ?_⟩
      rotate_left
      · go_simp
        try (with_reducible rfl)
      try go_simp
      refine hK _ ?_
      clear hK K
      refine wpSq_get rfl (by rfl) (fun K hK => ?_)
      refine ⟨?_, fun w' hS' => ?_, ?_⟩
      rotate_left
      · go_simp
        try (with_reducible rfl)
      try go_simp
      refine hK _ ?_
      clear hK K
      refine wpSq_get rfl (by rfl) (fun K hK => ?_)
      refine ⟨?_, fun w' hS' => ?_, ?_⟩
      rotate_left
      · go_simp
        try (with_reducible rfl)
      try go_simp
      refine hK _ ?_
      clear hK K
      refine wpSq_get rfl (by rfl) (fun K hK => ?_)
      refine ⟨?_, fun w' hS' => ?_, ?_⟩
      rotate_left
      · go_simp
        try (with_reducible rfl)
      try go_simp
      refine hK _ ?_
      clear hK K
      refine wpSq_get rfl (by rfl) (fun K hK => ?_)
      refine ⟨?_, fun w' hS' => ?_, ?_⟩
      rotate_left
      · go_simp
        try (with_reducible rfl)
      try go_simp
      refine hK _ ?_
      clear hK K
      refine wpSq_get rfl (by rfl) (fun K hK => ?_)
      refine ⟨?_, fun w' hS' => ?_, ?_⟩
      rotate_left
      · go_simp
        try (with_reducible rfl)
      try go_simp
      refine hK _ ?_
      clear hK K
      refine wpSq_early rfl (by rfl) (fun K hK => ?_)
      refine ⟨_, fun w' hS' => get_load rfl rfl (RD.out _ hS'.2).2, ?_⟩
      try go_simp
      refine hK _ ?_
      clear hK K
      refine wpSq_get rfl (by rfl) (fun K hK => ?_)
      refine ⟨?_, fun w' hS' => ?_, ?_⟩
      rotate_left
      · go_simp
        try (with_reducible rfl)
      try go_simp
      refine hK _ ?_
      clear hK K
      refine wpSq_get rfl (by rfl) (fun K hK => ?_)
      refine ⟨?_, fun w' hS' => ?_, ?_⟩
      rotate_left
      · go_simp
        try (with_reducible rfl)
      try go_simp
      refine hK _ ?_
      clear hK K
      refine wpSq_get rfl (by rfl) (fun K hK => ?_)
      refine ⟨?_, fun w' hS' => ?_, ?_⟩
      rotate_left
      · go_simp
        try (with_reducible rfl)
      try go_simp
      refine hK _ ?_
      clear hK K
      refine wpSq_early rfl (by rfl) (fun K hK => ?_)
      refine ⟨_, fun w' hS' => get_load rfl rfl (RD.out _ hS'.2).1, ?_⟩
      try go_simp
      refine hK _ ?_
      clear hK K
      refine wpSq_get rfl (by rfl) (fun K hK => ?_)
      refine ⟨?_, fun w' hS' => ?_, ?_⟩
      rotate_left
      · go_simp
        try (with_reducible rfl)
      try go_simp
      refine hK _ ?_
      clear hK K
      refine wpSq_late rfl (by rfl) (fun K hK => ?_)
      refine wp_store_mid 30 _ _ rfl g (k * 32) Y (by go_simp; try rw [add_flat]) rfl T1.out hy6 oY.out ?_
      try go_simp
      refine hK _ _ (HB1.out) ?_
      clear hK K
      refine wpSq_get rfl (by rfl) (fun K hK => ?_)
      refine ⟨?_, fun w' hS' => ?_, ?_⟩
      rotate_left
      · go_simp
        try (with_reducible rfl)
      try go_simp
      refine hK _ ?_
      clear hK K
      refine wpSq_late rfl (by rfl) (fun K hK => ?_)
      refine wp_store_mid 30 _ _ rfl g (j * 32) X (by go_simp; try rw [add_flat]) rfl T2.out hx6 oX.out ?_
      try go_simp
      refine hK _ _ (HB2.out) ?_
      clear hK K
      refine wpSq_done ?_
      refine HQ.out _ _ ?_
      go_wp2
      go_roundw
      case rel => exact ⟨k + 1, _, by go_num, by go_num, by omega, HN, Lib.hid ⟨by rw [HZ.out]; exact HW2.out, fun g' hg' => by cases hg'; exact HT2.out, HB2.out⟩⟩
      case measure => simp [intOf]; omega
    · have HD : Hid (ms = ls.reverse) := Lib.hid (HV.out.done (by rw [← hn.out]; omega))
      go_wp2
      go_end0
      exact ⟨⟨_, rfl⟩, by rw [← HD.out]; exact HW.out.1, HW.out.2.2⟩
end Go.Proofs.YtkjgkeigfebcmaaDoor
