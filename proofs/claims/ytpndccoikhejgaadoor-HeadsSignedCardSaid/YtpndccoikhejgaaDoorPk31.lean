/-
  Several texts in one (a claim has room for 60 files): HeadEqual, HeadSameP, HeadField, HeadRead.
-/
import Derived.Test.YtpndccoikhejgaaDoorPk07
import Derived.Test.YtpndccoikhejgaaDoorPk26
import Derived.Test.YtpndccoikhejgaaDoorPk25
import Derived.Test.YtpndccoikhejgaaDoorPk29
import Derived.Test.YtpndccoikhejgaaDoorPk05
import Derived.Test.YtpndccoikhejgaaDoorPk04
namespace Go.Proofs.YtpndccoikhejgaaDoor
open Go.RowKit
set_option linter.unusedVariables false
set_option maxRecDepth 100000

attribute [local go_sem ↓ high] read_at neq_at
set_option maxHeartbeats 4000000 in
theorem equal_any (ls ms : List (List Int)) (hl : hashes ls) (hm : hashes ms) (h63 : ls.length ≤ 9223372036854775807) (h64 : ms.length ≤ 9223372036854775807) (A B : Option Addr) (c d : Nat) (w : World) (hA : HL w w.heap.size A ls) (hB : HL w w.heap.size B ms) :
    Calls Tryd.prog 43 #[.slice A ls.length c, .slice B ms.length d] w fun e w' => e = .returned (.bool (decide (ls = ms))) ∧ ∃ k, w' = w.drewN k := by
  obtain ⟨n, hn⟩ : ∃ n, Hid (n = ls.length) := ⟨_, Lib.hid rfl⟩
  obtain ⟨m, hmm⟩ : ∃ m, Hid (m = ms.length) := ⟨_, Lib.hid rfl⟩
  rw [← hn.out] at h63 ⊢
  rw [← hmm.out] at h64 ⊢
  have HA := Lib.hid hA
  have HB := Lib.hid hB
  clear hA hB
  by_cases hnm : n = m
  · have HNM : Hid (ls.length = ms.length) := Lib.hid (by rw [← hn.out, ← hmm.out]; exact hnm)
    subst hnm
    have d1 : ((n : Int) != (n : Int)) = false := by simp
    have d2 : ((n : Int) == (n : Int)) = true := by simp
    obtain ⟨b, hb⟩ : ∃ b, Hid (b = decide (ls = ms)) := ⟨_, Lib.hid rfl⟩
    rw [← hb.out]
    go_enter Tryd.func43, Tryd.ntmps43
    go_wp2
    go_loopw [13] (fun s13 wr => ∃ k q : Nat, k ≤ n ∧ s13 = .int .i64 (k : Int) ∧ wr = w.drewN q ∧ Hid (ls.take k = ms.take k)) (fun s13 _ => (n - intOf s13).toNat)
    case atStart => exact ⟨0, 0, by omega, rfl, rfl, Lib.hid rfl⟩
    case round =>
      obtain ⟨k, q, hk, rfl, rfl, HK⟩ := hrel
      by_cases hlt : k < n
      · obtain ⟨ad, rfl⟩ := HA.out.some k (by rw [← hn.out]; exact hlt)
        obtain ⟨bd, rfl⟩ := HB.out.some k (by rw [← hmm.out]; exact hlt)
        have s1 := fun p => (HA.out.next (below_drewN (Below.refl _ w) p) (Nat.le_refl _)).read hl k (by rw [← hn.out]; exact hlt)
        have s2 := fun p => (HB.out.next (below_drewN (Below.refl _ w) p) (Nat.le_refl _)).read hm k (by rw [← hmm.out]; exact hlt)
        obtain ⟨l, hll⟩ : ∃ l, Hid (l = ls.getD k []) := ⟨_, Lib.hid rfl⟩
        obtain ⟨l2, hl2⟩ : ∃ l, Hid (l = ms.getD k []) := ⟨_, Lib.hid rfl⟩
        rw [← hll.out] at s1
        rw [← hl2.out] at s2
        have i1 := hashes_at hl k (by rw [← hn.out]; exact hlt)
        have i2 := hashes_at hm k (by rw [← hmm.out]; exact hlt)
        rw [← hll.out] at i1
        rw [← hl2.out] at i2
        by_cases he : l = l2
        · have N1 := fun W => (neqAt_hash l l2 i1.1 i2.1 i1.2 i2.2 W).trans (by rw [decide_eq_true he]; try rfl)
          have HN : Hid (ls.take (k + 1) = ms.take (k + 1)) := Lib.hid (take_same HK.out (by rw [← hn.out]; exact hlt) (by rw [← hmm.out]; exact hlt) (by rw [← hll.out, ← hl2.out]; exact he))
          clear i1 i2 he
          go_wp2
          go_quiet (fail)
          go_wp2
          go_roundw
          case rel => exact ⟨k + 1, _, by omega, by go_num, rfl, HN⟩
          case measure => simp [intOf]; omega
        · have N1 := fun W => (neqAt_hash l l2 i1.1 i2.1 i1.2 i2.2 W).trans (by rw [decide_eq_false he]; try rfl)
          have HN : Hid (b = false) := Lib.hid (by rw [hb.out]; exact decide_eq_false (same_not (by rw [← hll.out, ← hl2.out]; exact he)))
          clear i1 i2 he
          go_wp2
          go_quiet (fail)
          go_wp2
          go_ret
          exact ⟨by rw [HN.out]; rfl, q + nq, World.drewN_drewN _ _ _⟩
      · have hk9 : Hid (k = n) := Lib.hid (by omega)
        have HN : Hid (b = true) := Lib.hid (by rw [hb.out]; exact decide_eq_true (same_all (by have := HK.out; rw [hk9.out, hn.out] at this; exact this) HNM.out))
        go_wp2
        go_ret
        exact ⟨by rw [HN.out]; rfl, _, rfl⟩
  · have d1 : ((n : Int) != (m : Int)) = true := by simp; omega
    have d2 : ((n : Int) == (m : Int)) = false := by simp; omega
    have HN : Hid (decide (ls = ms) = false) := Lib.hid (decide_eq_false (fun e => hnm (by rw [hn.out, hmm.out, e])))
    go_enter Tryd.func43, Tryd.ntmps43
    go_wp2
    go_ret
    exact ⟨by rw [HN.out]; rfl, 0, rfl⟩
end Go.Proofs.YtpndccoikhejgaaDoor
namespace Go.Proofs.YtpndccoikhejgaaDoor
open Go.RowKit Go.Great
set_option linter.unusedVariables false
set_option maxRecDepth 100000

attribute [local go_sem ↓ high] read_at read_d eq_d
set_option maxHeartbeats 8000000 in
theorem headSame_any (x y : Sh) (hx : x.fits) (hy : y.fits) (h63 : x.path.length ≤ 9223372036854775807) (h64 : y.path.length ≤ 9223372036854775807) (A B : Option Addr) (c d : Nat) (w : World) (hA : HW w A x.path) (hB : HW w B y.path) :
    Calls Tryd.prog 20 #[.agg (signedV x.size x.root x.index x.sig A x.path.length c), .agg (signedV y.size y.root y.index y.sig B y.path.length d)] w fun e w' => e = .returned (.bool (decide (sameP x y))) ∧ Below w.heap.size w w' := by
  obtain ⟨CA, hCA⟩ : ∃ C, C = signedV x.size x.root x.index x.sig A x.path.length c := ⟨_, rfl⟩
  obtain ⟨CB, hCB⟩ : ∃ C, C = signedV y.size y.root y.index y.sig B y.path.length d := ⟨_, rfl⟩
  obtain ⟨n, hn⟩ : ∃ n, Hid (n = x.path.length) := ⟨_, Lib.hid rfl⟩
  obtain ⟨m, hm⟩ : ∃ m, Hid (m = y.path.length) := ⟨_, Lib.hid rfl⟩
  obtain ⟨ls, hls⟩ : ∃ l, Hid (l = x.path) := ⟨_, Lib.hid rfl⟩
  obtain ⟨ms, hms⟩ : ∃ l, Hid (l = y.path) := ⟨_, Lib.hid rfl⟩
  obtain ⟨VA, hVA⟩ : ∃ C, Hid (C = headV x.size x.root) := ⟨_, Lib.hid rfl⟩
  obtain ⟨VB, hVB⟩ : ∃ C, Hid (C = headV y.size y.root) := ⟨_, Lib.hid rfl⟩
  have FA : Hid (∀ W, Row W w.heap.size 34 CA → (readD (.pointer (some ⟨w.heap.size, 0, none⟩))).run Tryd.prog W = .ok (.agg VA) W ∧ W.cell? ⟨w.heap.size, 0, none⟩ = some (.int .i64 x.size) ∧ W.cell? ⟨w.heap.size, 33, none⟩ = some (.int .i64 x.index) ∧ W.cell? ⟨w.heap.size, 34, none⟩ = some (.string x.sig) ∧ W.cell? ⟨w.heap.size, 35, none⟩ = some (.slice A n c)) := Lib.hid fun W h => by
    subst hCA; rw [hn.out, hVA.out]; exact ⟨signed_head h hx.1.1, signed_cells h hx.1.1⟩
  have FB : Hid (∀ W, Row W (w.heap.size + 1) 34 CB → (readD (.pointer (some ⟨w.heap.size + 1, 0, none⟩))).run Tryd.prog W = .ok (.agg VB) W ∧ W.cell? ⟨w.heap.size + 1, 0, none⟩ = some (.int .i64 y.size) ∧ W.cell? ⟨w.heap.size + 1, 33, none⟩ = some (.int .i64 y.index) ∧ W.cell? ⟨w.heap.size + 1, 34, none⟩ = some (.string y.sig) ∧ W.cell? ⟨w.heap.size + 1, 35, none⟩ = some (.slice B m d)) := Lib.hid fun W h => by
    subst hCB; rw [hm.out, hVB.out]; exact ⟨signed_head h hy.1.1, signed_cells h hy.1.1⟩
  have H0 : Hid (TwoG w CA CB A ls B ms ((w.alloc (.cells CA 34)).alloc (.cells CB 34))) := Lib.hid (by rw [hls.out, hms.out]; exact TwoG.start CA CB hA hB)
  have hl : Hid (hashes ls) := Lib.hid (by rw [hls.out]; exact hx.2)
  have hq : Hid (hashes ms) := Lib.hid (by rw [hms.out]; exact hy.2)
  have HD := fun W => eqD_head x.size y.size x.root y.root hx.1 hy.1 W
  rw [← hVA.out, ← hVB.out] at HD
  have HS : Hid (sameP x y ↔ (x.size = y.size ∧ x.root = y.root) ∧ x.index = y.index ∧ x.sig = y.sig ∧ ls = ms) := Lib.hid (by rw [hls.out, hms.out]; exact Iff.rfl)
  have XE : Hid (∀ W, HW W A ls → HW W B ms → Calls Tryd.prog 43 #[.slice A n c, .slice B m d] W fun e w' => e = .returned (.bool (decide (ls = ms))) ∧ Below W.heap.size W w') := Lib.hid fun W ha hb => by
    rw [hn.out, hm.out, hls.out, hms.out]
    rw [hls.out] at ha
    rw [hms.out] at hb
    exact (equal_any x.path y.path hx.2 hy.2 h63 h64 A B c d W ha hb).mono (fun e w' h => ⟨h.1, by obtain ⟨k, rfl⟩ := h.2; exact below_drewN (Below.refl _ _) k⟩)
  rw [← hCA, ← hCB]
  clear hCA hCB hA hB hx hy hVA hVB hls hms hn hm hl hq h63 h64
  by_cases h1 : x.size = y.size ∧ x.root = y.root
  · rw [decide_eq_true h1] at HD
    by_cases h2 : x.index = y.index
    · have d2 : (x.index == y.index) = true := by simpa using h2
      by_cases h3 : x.sig = y.sig
      · have d3 : (x.sig.toList == y.sig.toList) = true := by rw [h3]; exact beq_self_eq_true _
        have HB : Hid (decide (sameP x y) = decide (ls = ms)) := Lib.hid (by
          by_cases e : ls = ms
          · rw [decide_eq_true (HS.out.2 ⟨h1, h2, h3, e⟩), decide_eq_true e]
          · rw [decide_eq_false (fun h => e (HS.out.1 h).2.2.2), decide_eq_false e])
        rw [HB.out]
        obtain ⟨b, hb⟩ : ∃ b, Hid (b = decide (ls = ms)) := ⟨_, Lib.hid rfl⟩
        rw [← hb.out] at XE ⊢
        rw [h2] at FA
        rw [h3] at FA
        have d2b : (y.index == y.index) = true := beq_self_eq_true _
        have d3b : (y.sig.toList == y.sig.toList) = true := beq_self_eq_true _
        clear h1 h2 h3 d2 d3 HS HB hb
        go_enter Tryd.func20, Tryd.ntmps20
        go_upto_region 1 with fail
        refine world_gen (fun X => TwoG w CA CB A ls B ms X) H0.out (fun X HX => ?_)
        have HX := Lib.hid HX
        obtain ⟨a0, a1, a2, a3, a4⟩ := FA.out _ HX.out.ra
        obtain ⟨b0, b1, b2, b3, b4⟩ := FB.out _ HX.out.rb
        go_wp2_with (go_at_call 43; (with_reducible refine (XE.out _ HX.out.la HX.out.lb).mono ?_); rintro e w1 ⟨rfl, hb⟩; have H1 := Lib.hid (HX.out.next hb); clear hb)
        go_ret
        exact ⟨rfl, H1.out.below⟩
      · have d3 : (x.sig.toList == y.sig.toList) = false := by
          have h4 : ¬ x.sig.toList = y.sig.toList := fun h => h3 (text_same h)
          simpa using h4
        have HB : Hid (decide (sameP x y) = false) := Lib.hid (decide_eq_false (fun h => h3 (HS.out.1 h).2.2.1))
        rw [HB.out]
        rw [h2] at FA
        have d2b : (y.index == y.index) = true := beq_self_eq_true _
        clear h1 h2 h3 d2 HS HB
        go_enter Tryd.func20, Tryd.ntmps20
        go_upto_region 1 with fail
        refine world_gen (fun X => TwoG w CA CB A ls B ms X) H0.out (fun X HX => ?_)
        have HX := Lib.hid HX
        obtain ⟨a0, a1, a2, a3, a4⟩ := FA.out _ HX.out.ra
        obtain ⟨b0, b1, b2, b3, b4⟩ := FB.out _ HX.out.rb
        go_wp2
        go_ret
        exact ⟨rfl, HX.out.below⟩
    · have d2 : (x.index == y.index) = false := by simpa using h2
      have HB : Hid (decide (sameP x y) = false) := Lib.hid (decide_eq_false (fun h => h2 (HS.out.1 h).2.1))
      rw [HB.out]
      clear h1 h2 HS HB
      go_enter Tryd.func20, Tryd.ntmps20
      go_upto_region 1 with fail
      refine world_gen (fun X => TwoG w CA CB A ls B ms X) H0.out (fun X HX => ?_)
      have HX := Lib.hid HX
      obtain ⟨a0, a1, a2, a3, a4⟩ := FA.out _ HX.out.ra
      obtain ⟨b0, b1, b2, b3, b4⟩ := FB.out _ HX.out.rb
      go_wp2
      go_ret
      exact ⟨rfl, HX.out.below⟩
  · rw [decide_eq_false h1] at HD
    have HB : Hid (decide (sameP x y) = false) := Lib.hid (decide_eq_false (fun h => h1 (HS.out.1 h).1))
    rw [HB.out]
    clear h1 HS HB
    go_enter Tryd.func20, Tryd.ntmps20
    go_upto_region 1 with fail
    refine world_gen (fun X => TwoG w CA CB A ls B ms X) H0.out (fun X HX => ?_)
    have HX := Lib.hid HX
    obtain ⟨a0, a1, a2, a3, a4⟩ := FA.out _ HX.out.ra
    obtain ⟨b0, b1, b2, b3, b4⟩ := FB.out _ HX.out.rb
    go_wp2
    go_ret
    exact ⟨rfl, HX.out.below⟩
end Go.Proofs.YtpndccoikhejgaaDoor
namespace Go.Proofs.YtpndccoikhejgaaDoor
open Go.RowKit Go.Great
set_option linter.unusedVariables false
set_option maxRecDepth 100000

theorem signedV_list (s : Int) (r : List Int) (i : Int) (t : ByteArray) (A : Option Addr) (n c : Nat) : (signedV s r i t A n c).toList = Value.int .i64 s :: ((nums .u8 r).toList ++ [.int .i64 i, .string t, .slice A n c]) := by
  simp [signedV, headV, sealV]
section
variable {s : Int} {r : List Int} {i : Int} {t : ByteArray} {A : Option Addr} {n c : Nat}
theorem signedV_set0 (x : Int) : (signedV s r i t A n c).setIfInBounds 0 (.int .i64 x) = signedV x r i t A n c := by
  apply Array.toList_inj.1
  rw [Array.toList_setIfInBounds, signedV_list, signedV_list]; rfl
theorem set_tail {N : List Value} (hN : N.length = 32) (a : Value) (T : List Value) (k : Nat) (v : Value) : (a :: (N ++ T)).set (33 + k) v = a :: (N ++ T.set k v) := by
  rw [show 33 + k = (32 + k) + 1 by omega, List.set_cons_succ, List.set_append_right _ _ (by omega), show 32 + k - N.length = k by omega]
theorem nums_len (hr : r.length = 32) : (nums .u8 r).toList.length = 32 := by rw [Array.length_toList, nums_size, hr]
theorem signedV_set33 (hr : r.length = 32) (x : Int) : (signedV s r i t A n c).setIfInBounds 33 (.int .i64 x) = signedV s r x t A n c := by
  apply Array.toList_inj.1
  rw [Array.toList_setIfInBounds, signedV_list, signedV_list]; exact set_tail (nums_len hr) _ _ 0 _
theorem signedV_set34 (hr : r.length = 32) (x : ByteArray) : (signedV s r i t A n c).setIfInBounds 34 (.string x) = signedV s r i x A n c := by
  apply Array.toList_inj.1
  rw [Array.toList_setIfInBounds, signedV_list, signedV_list]; exact set_tail (nums_len hr) _ _ 1 _
theorem signedV_set35 (hr : r.length = 32) (B : Option Addr) (m d : Nat) : (signedV s r i t A n c).setIfInBounds 35 (.slice B m d) = signedV s r i t B m d := by
  apply Array.toList_inj.1
  rw [Array.toList_setIfInBounds, signedV_list, signedV_list]; exact set_tail (nums_len hr) _ _ 2 _
end
/-- Several cells, one behind the other. -/
def setMany : Array Value → Nat → List Value → Array Value
  | C, _, [] => C
  | C, o, v :: r => setMany (C.setIfInBounds o v) (o + 1) r
theorem setMany_get : ∀ (vs : List Value) (o : Nat) (C : Array Value) (k : Nat), (setMany C o vs)[k]? = if o ≤ k ∧ k < o + vs.length ∧ k < C.size then vs[k - o]? else C[k]?
  | [], o, C, k => by rw [setMany, if_neg (by simp only [List.length_nil]; omega)]
  | v :: r, o, C, k => by
    rw [setMany, setMany_get r (o + 1) _ k, Array.size_setIfInBounds, Array.getElem?_setIfInBounds]
    simp only [List.length_cons]
    by_cases h : o = k
    · subst h
      rw [if_neg (by omega), if_pos rfl]
      by_cases h2 : o < C.size
      · rw [if_pos h2, if_pos (by omega), Nat.sub_self]; rfl
      · rw [if_neg h2, if_neg (by omega), Array.getElem?_eq_none (by omega)]
    · rw [if_neg h]
      by_cases h2 : o + 1 ≤ k ∧ k < o + 1 + r.length ∧ k < C.size
      · rw [if_pos h2, if_pos (by omega), show k - o = (k - (o + 1)) + 1 by omega, List.getElem?_cons_succ]
      · rw [if_neg h2, if_neg (by omega)]
theorem Row.cells {g : Nat} {t : TypeId} : ∀ (vs : List Value) (o : Nat) {w : World} {C : Array Value}, Row w g t C → Row (w.setCells g o vs) g t (setMany C o vs)
  | [], _, _, _, h => h
  | v :: r, o, w, C, h => by rw [World.setCells, setMany]; exact Row.cells r (o + 1) (h.put o v)
theorem signedV_root {s : Int} {r : List Int} {i : Int} {t : ByteArray} {A : Option Addr} {n c : Nat} (hr : r.length = 32) (l : List Int) (hl : l.length = 32) : setMany (signedV s r i t A n c) 1 (nums .u8 l).toList = signedV s l i t A n c := by
  have z1 := signedV_size s r i t A n c hr
  have z2 := signedV_size s l i t A n c hl
  have zl : (nums .u8 l).toList.length = 32 := nums_len hl
  apply Array.ext_getElem?
  intro k
  rw [setMany_get, zl, z1]
  by_cases h0 : k = 0
  · subst h0
    rw [if_neg (by omega), signedV_low s r i t A n c hr 0 (by decide), signedV_low s l i t A n c hl 0 (by decide), headV_get0, headV_get0]
  · by_cases h1 : k < 33
    · obtain ⟨j, rfl⟩ : ∃ j, k = 1 + j := ⟨k - 1, by omega⟩
      rw [if_pos (by omega), signedV_low s l i t A n c hl (1 + j) h1, headV_get s l hl j (by omega), Nat.add_sub_cancel_left, Array.getElem?_toList, nums_get .u8 l j (by omega)]
    · rw [if_neg (by omega)]
      obtain ⟨j, rfl⟩ : ∃ j, k = 33 + j := ⟨k - 33, by omega⟩
      rw [signedV_high s r i t A n c hr, signedV_high s l i t A n c hl]
/-- What read holds: its result, field by field. -/
structure RdH (w : World) (s : Int) (r : List Int) (i : Int) (t : ByteArray) (A : Option Addr) (n c : Nat) (wr : World) : Prop where
  row : Row wr w.heap.size 34 (signedV s r i t A n c)
  len : r.length = 32
  below : Below w.heap.size w wr
section
variable {w wr : World} {s : Int} {r : List Int} {i : Int} {t : ByteArray} {A : Option Addr} {n c : Nat}
theorem RdH.start (w : World) : RdH w 0 zeroL 0 ⟨#[]⟩ none 0 0 (w.alloc (.cells (signedV 0 zeroL 0 ⟨#[]⟩ none 0 0) 34)) := ⟨Row.made _ _ _, zeroL_is.1, (Below.refl _ _).alloc (Nat.le_refl _) _⟩
theorem RdH.next {w1 : World} (h : RdH w s r i t A n c wr) (hb : Below wr.heap.size wr w1) : RdH w s r i t A n c w1 := ⟨h.row.next hb, h.len, below_new h.below hb⟩
theorem RdH.free (h : RdH w s r i t A n c wr) (k : Nat) : wr.frozen? ⟨w.heap.size, k, none⟩ = false := h.row.free k
theorem RdH.size (h : RdH w s r i t A n c wr) (x : Int) : RdH w x r i t A n c (wr.setCell ⟨w.heap.size, 0, none⟩ (.int .i64 x)) :=
  ⟨by rw [← signedV_set0 (s := s)]; exact h.row.put 0 _, h.len, h.below.setCell (p := ⟨w.heap.size, 0, none⟩) (Nat.le_refl _) _⟩
theorem RdH.index (h : RdH w s r i t A n c wr) (x : Int) : RdH w s r x t A n c (wr.setCell ⟨w.heap.size, 33, none⟩ (.int .i64 x)) :=
  ⟨by rw [← signedV_set33 (i := i) h.len]; exact h.row.put 33 _, h.len, h.below.setCell (p := ⟨w.heap.size, 33, none⟩) (Nat.le_refl _) _⟩
theorem RdH.sig (h : RdH w s r i t A n c wr) (x : ByteArray) : RdH w s r i x A n c (wr.setCell ⟨w.heap.size, 34, none⟩ (.string x)) :=
  ⟨by rw [← signedV_set34 (t := t) h.len]; exact h.row.put 34 _, h.len, h.below.setCell (p := ⟨w.heap.size, 34, none⟩) (Nat.le_refl _) _⟩
theorem RdH.path (h : RdH w s r i t A n c wr) (B : Option Addr) (m d : Nat) : RdH w s r i t B m d (wr.setCell ⟨w.heap.size, 35, none⟩ (.slice B m d)) :=
  ⟨by rw [← signedV_set35 (A := A) (n := n) (c := c) h.len]; exact h.row.put 35 _, h.len, h.below.setCell (p := ⟨w.heap.size, 35, none⟩) (Nat.le_refl _) _⟩
theorem RdH.root (h : RdH w s r i t A n c wr) (l : List Int) (hl : l.length = 32) : RdH w s l i t A n c (wr.setCells w.heap.size 1 (nums .u8 l).toList) :=
  ⟨by rw [← signedV_root (r := r) h.len l hl]; exact Row.cells _ _ h.row, hl, h.below.trans (below_setCells_w (Nat.le_refl _) _ _ _)⟩
theorem RdH.write (h : RdH w s r i t A n c wr) (l : List Int) (hl : l.length = 32) : (writeAt (.pointer (some ⟨w.heap.size, 1, none⟩)) (.agg (nums .u8 l))).run Tryd.prog wr = .ok () (wr.setCells w.heap.size 1 (nums .u8 l).toList) :=
  run_storeAt_mid (P := Tryd.prog) wr w.heap.size 1 23 (nums .u8 l) (fun j hj => ⟨by
    rw [h.row.cell, signedV_low s r i t A n c h.len (1 + j) (by rw [nums_size, hl] at hj; omega), headV_get s r h.len j (by rw [nums_size, hl] at hj; omega)]; rfl, h.row.free _⟩) (sizeH _ (by rw [nums_size]; exact hl)) (nums_one _ _)
theorem RdH.self (h : RdH w s r i t A n c wr) : (writeG (.pointer (some ⟨w.heap.size, 0, none⟩)) (.agg (signedV s r i t A n c))).run Tryd.prog wr = .ok () wr :=
  (h.row.writeG (signedV_size _ _ _ _ _ _ _ h.len) (signedV_size _ _ _ _ _ _ _ h.len) (signedV_one _ _ _ _ _ _ _)).trans (by rw [setRow_self wr w.heap.size _ _ _ h.row])
end
/-- A cell that is no byte belongs to no list of hashes. -/
theorem HW.far_cell {w : World} {A : Option Addr} {ls : List (List Int)} (h : HW w A ls) {p : Addr} {v : Value} (hp : w.cell? p = some v) (hv : ∀ x, v ≠ .int .u8 x) (u : Value) : HW (w.setCell p u) A ls := fun k hk => by
  obtain ⟨ad, e, hb, hc⟩ := h k hk
  refine ⟨ad, e, by simpa using hb, fun j hj => ?_⟩
  rw [World.cell?_setCell_other _ _ _ _ (fun e => by
    have h1 := hc j hj
    rw [← e, hp] at h1
    exact hv _ (Option.some.inj h1))]
  exact hc j hj
end Go.Proofs.YtpndccoikhejgaaDoor
namespace Go.Proofs.YtpndccoikhejgaaDoor
open Go.RowKit Go.Great
set_option linter.unusedVariables false
set_option maxRecDepth 100000

attribute [local go_sem ↓ high] read_at write_at read_g write_g
set_option maxHeartbeats 16000000 in
theorem headRead_any (s : ByteArray) (hs : s.size ≤ maxLen) (w : World) :
    Calls Tryd.prog 44 #[.string s] w fun e w' => ∃ A c, e = .returned (.tuple #[.agg (signedV (toldG s).size (toldG s).root (toldG s).index (toldG s).sig A (toldG s).path.length c), .string (unhsT (rest4 s)), .bool (unhsO (rest4 s))]) ∧ ((toldG s).path.length ≤ c ∧ c ≤ maxLen) ∧ HW w' A (toldG s).path ∧ Below w.heap.size w w' := by
  obtain ⟨n, hn⟩ : ∃ n, Hid (n = clampI (numA s)) := ⟨_, Lib.hid rfl⟩
  obtain ⟨i, hi⟩ : ∃ n, Hid (n = clampI (numA (rest2 s))) := ⟨_, Lib.hid rfl⟩
  obtain ⟨t1, ht1⟩ : ∃ n, Hid (n = rest1 s) := ⟨_, Lib.hid rfl⟩
  obtain ⟨t2, ht2⟩ : ∃ n, Hid (n = rest2 s) := ⟨_, Lib.hid rfl⟩
  obtain ⟨t3, ht3⟩ : ∃ n, Hid (n = rest3 s) := ⟨_, Lib.hid rfl⟩
  obtain ⟨t4, ht4⟩ : ∃ n, Hid (n = rest4 s) := ⟨_, Lib.hid rfl⟩
  obtain ⟨t5, ht5⟩ : ∃ n, Hid (n = unhsT (rest4 s)) := ⟨_, Lib.hid rfl⟩
  obtain ⟨sg, hsg⟩ : ∃ n, Hid (n = cutA (rest3 s)) := ⟨_, Lib.hid rfl⟩
  obtain ⟨pl, hpl⟩ : ∃ n, Hid (n = (unhsL (rest4 s)).length) := ⟨_, Lib.hid rfl⟩
  obtain ⟨o2, ho2⟩ : ∃ n, Hid (n = hashO (rest1 s)) := ⟨_, Lib.hid rfl⟩
  obtain ⟨o4, ho4⟩ : ∃ n, Hid (n = cutO (rest3 s)) := ⟨_, Lib.hid rfl⟩
  obtain ⟨o5, ho5⟩ : ∃ n, Hid (n = unhsO (rest4 s)) := ⟨_, Lib.hid rfl⟩
  obtain ⟨rt, hrt⟩ : ∃ l, Hid (l = hashA (rest1 s)) := ⟨_, Lib.hid rfl⟩
  have zrt : Hid (rt.length = 32) := Lib.hid (by rw [hrt.out]; exact (hashA_is _).1)
  obtain ⟨HA, hHA⟩ : ∃ C, Hid (C = nums .u8 rt) := ⟨_, Lib.hid rfl⟩
  have m1 : (rest1 s).size ≤ maxLen := Nat.le_trans (numB_le s) hs
  have m2 : (rest2 s).size ≤ maxLen := Nat.le_trans (hashB_le _) m1
  have m3 : (rest3 s).size ≤ maxLen := Nat.le_trans (numB_le _) m2
  have m4 : (rest4 s).size ≤ maxLen := Nat.le_trans (cutB_le _) m3
  have X1 : Hid (∀ W, Calls Tryd.prog 66 #[.string s] W fun e w' => e = .returned (.tuple #[.int .i64 n, .string t1]) ∧ Below W.heap.size W w') := Lib.hid fun W => by
    rw [hn.out, ht1.out]; exact headNumber_any s hs W
  have X2 : Hid (∀ W, Calls Tryd.prog 67 #[.string t1] W fun e w' => e = .returned (.tuple #[.agg HA, .string t2, .bool o2]) ∧ Below W.heap.size W w') := Lib.hid fun W => by
    have := unhash_any (rest1 s) m1 W
    rw [unhV_is] at this
    rw [hHA.out, hrt.out, ht1.out, ht2.out, ho2.out]; exact this
  have X3 : Hid (∀ W, Calls Tryd.prog 66 #[.string t2] W fun e w' => e = .returned (.tuple #[.int .i64 i, .string t3]) ∧ Below W.heap.size W w') := Lib.hid fun W => by
    rw [hi.out, ht2.out, ht3.out]; exact headNumber_any (rest2 s) m2 W
  have X4 : Hid (∀ W, Calls Tryd.prog 68 #[.string t3] W fun e w' => e = .returned (.tuple #[.string sg, .string t4, .bool o4]) ∧ Below W.heap.size W w') := Lib.hid fun W => by
    have := (cut_any (rest3 s) m3 W).mono (fun e w' h => (⟨h.1, by obtain ⟨k, rfl⟩ := h.2; exact below_drewN (Below.refl _ _) k⟩ : e = .returned (cutV (rest3 s)) ∧ Below W.heap.size W w'))
    rw [cutV_is] at this
    rw [hsg.out, ht3.out, ht4.out, ho4.out]; exact this
  have X5 : Hid (∀ W, Calls Tryd.prog 69 #[.string t4] W fun e w' => ∃ A c, e = .returned (.tuple #[.slice A pl c, .string t5, .bool o5]) ∧ HW w' A (unhsL (rest4 s)) ∧ (pl ≤ c ∧ c ≤ maxLen) ∧ Below W.heap.size W w') := Lib.hid fun W => by
    rw [ht4.out]
    refine (unhashes_any (rest4 s) m4 W).mono ?_
    intro e w' h
    obtain ⟨A, c, h1, h2, h3, h4⟩ := h.parts
    rw [hpl.out, ht5.out, ho5.out]
    exact ⟨A, c, h1, h2, h3, h4⟩
  have H0 := Lib.hid (RdH.start w)
  rw [← signed_zero] at H0
  have HE : Hid ((toldG s).size = n ∧ (toldG s).root = rt ∧ (toldG s).index = i ∧ (toldG s).sig = sg ∧ (toldG s).path = unhsL (rest4 s) ∧ (toldG s).path.length = pl ∧ unhsT (rest4 s) = t5 ∧ unhsO (rest4 s) = o5) := Lib.hid (by rw [hn.out, hrt.out, hi.out, hsg.out, hpl.out, ht5.out, ho5.out]; exact ⟨rfl, rfl, rfl, rfl, rfl, rfl, rfl, rfl⟩)
  clear m1 m2 m3 m4 ht1 ht2 ht3 ht4 ht5 ho2 ho4 ho5 hn hi hsg hpl hrt hs
  go_enter Tryd.func44, Tryd.ntmps44
  go_upto_region 1 with fail
  refine world_gen (fun X => RdH w 0 zeroL 0 ⟨#[]⟩ none 0 0 X) H0.out (fun X HX => ?_)
  have HX := Lib.hid HX
  clear H0
  go_upto_region 2 with (go_at_call 66; (with_reducible refine (X1.out _).mono ?_); rintro e w1 ⟨rfl, hb⟩; have H1 := Lib.hid (HX.out.next hb); clear hb; have c1 := (signed_cells H1.out.row H1.out.len).1; have f1 := H1.out.free 0)
  have H2 := Lib.hid (H1.out.size n)
  clear c1 f1 H1 HX X1
  go_upto_region 3 with (go_at_call 67; (with_reducible refine (X2.out _).mono ?_); rintro e w3 ⟨rfl, hb⟩; have H3 := Lib.hid (H2.out.next hb); clear hb; have s3 := H3.out.write rt zrt.out; rw [← hHA.out] at s3)
  have H4 := Lib.hid (H3.out.root rt zrt.out)
  rw [← hHA.out] at H4
  clear s3 H3 H2 X2
  obtain ⟨w4, hw4⟩ : ∃ W, W = w3.setCells w.heap.size 1 HA.toList := ⟨_, rfl⟩
  rw [← hw4] at H4 ⊢
  clear hw4
  go_upto_region 4 with (go_at_call 66; (with_reducible refine (X3.out _).mono ?_); rintro e w5 ⟨rfl, hb⟩; have H5 := Lib.hid (H4.out.next hb); clear hb; have c5 := (signed_cells H5.out.row H5.out.len).2.1; have f5 := H5.out.free 33)
  have H6 := Lib.hid (H5.out.index i)
  clear c5 f5 H5 H4 X3
  go_upto_region 5 with (go_at_call 68; (with_reducible refine (X4.out _).mono ?_); rintro e w7 ⟨rfl, hb⟩; have H7 := Lib.hid (H6.out.next hb); clear hb; have c7 := (signed_cells H7.out.row H7.out.len).2.2.1; have f7 := H7.out.free 34)
  have H8 := Lib.hid (H7.out.sig sg)
  clear c7 f7 H7 H6 X4
  go_upto_region 6 with (go_at_call 69; (with_reducible refine (X5.out _).mono ?_); rintro e w9 ⟨A, c, rfl, hA, hc, hb⟩; have H9 := Lib.hid (H8.out.next hb); have HA9 := Lib.hid hA; have HC := Lib.hid hc; clear hb hA hc; have c9 := (signed_cells H9.out.row H9.out.len).2.2.2; have f9 := H9.out.free 35)
  have HP := Lib.hid (H9.out.path A pl c)
  have HQ := Lib.hid (HA9.out.far_cell c9 (by intro x; simp) (.slice A pl c))
  clear c9 f9 H9 H8 X5 HA9
  obtain ⟨SV, hSV⟩ : ∃ C, Hid (C = signedV n rt i sg A pl c) := ⟨_, Lib.hid rfl⟩
  have zSV : Hid (SV.size = 36) := Lib.hid (by rw [hSV.out]; exact signedV_size _ _ _ _ _ _ _ zrt.out)
  have l9 := signed_all HP.out.row zrt.out
  have s9 := HP.out.self
  have RP := Lib.hid HP.out.row
  rw [← hSV.out] at l9 s9 RP
  obtain ⟨wz, hwz⟩ : ∃ W, W = w9.setCell ⟨w.heap.size, 35, none⟩ (.slice A pl c) := ⟨_, rfl⟩
  rw [← hwz] at l9 s9 RP HP HQ ⊢
  clear hwz
  go_wp2
  refine bodyPost_ret (results_row3b (p := 2) (u := 3) (v := 4) rfl _ _ w.heap.size 34 _ (0, 0) _ rfl RP.out Tryd.underlying34 rfl (sizeG _ zSV.out)) rfl ?_
  obtain ⟨e1, e2, e3, e4, e5, e6, e7, e8⟩ := HE.out
  refine ⟨A, c, ?_, ?_, ?_, HP.out.below⟩
  · rw [hSV.out, e1, e2, e3, e4, e6, e7, e8]; rfl
  · rw [e6]; exact HC.out
  · rw [e5]; exact HQ.out
end Go.Proofs.YtpndccoikhejgaaDoor
