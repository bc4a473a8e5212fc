/-
  The walk of the document's Leaf of layer 8: what stands for a key with these public hashes. Condition: a list of hashes in memory. What it makes is new memory; nothing that was there changes.
-/
import Derived.Test.YtllabnhgiojmmaaDoorRefSecret
import Derived.Test.YtllabnhgiojmmaaDoorByteMem
namespace Go.Proofs.YtllabnhgiojmmaaDoor
open Go.RowKit Go.Great
set_option linter.unusedVariables false
set_option maxRecDepth 100000

theorem str_cons (l : List Int) : strOfNums (4 :: l) = ⟨#[4]⟩ ++ strOfNums l := by
  have h := texts_app [4] l
  have e : strOfNums [4] = ⟨#[4]⟩ := rfl
  rw [e] at h
  rw [h]; rfl
/-- What Leaf holds: its result, and the bytes so far. -/
structure KeyH (w wr : World) (v : Value) (n : Nat) (bs : List Int) : Prop where
  out : Row wr w.heap.size 24 (nums .u8 (List.replicate 32 0))
  own : wr.ownsRow (w.heap.size + 1) 5 1 v n (cellsB bs)
  below : Below w.heap.size w wr
theorem KeyH.put {w wr w1 : World} {v v' : Value} {n m : Nat} {bs us : List Int} (h : KeyH w wr v n bs) (h1 : w1.ownsRow (w.heap.size + 1) 5 1 v' m (cellsB us)) (hg : wr.grownBy w1 v.ownBlock) : KeyH w w1 v' m us :=
  ⟨h.out.grown hg (fun e => by have := (h.own.lt _ e.symm).1; omega), h1, h.below.grown hg h.below.size (fun k hk => by have := (h.own.lt k hk).1; omega)⟩
theorem KeyH.start {w wx : World} (hr : Row wx w.heap.size 24 (nums .u8 (List.replicate 32 0))) (hb : Below w.heap.size w wx) : KeyH w (wx.alloc (.cells #[.int .u8 4] 5)) (.slice (some ⟨wx.heap.size, 0, none⟩) 1 1) 1 [4] :=
  have hs := hr.lt
  ⟨hr.alloc _, World.ownsRow_lit (base := w.heap.size + 1) (e := 5) (size := 1) wx #[.int .u8 4] 1 (by omega) (by decide) rfl, hb.alloc hb.size _⟩
attribute [local go_sem ↓ high] read_at write_at
set_option maxHeartbeats 8000000 in
theorem refKey_any (ls : List (List Int)) (hh : hashes ls) (A : Option Addr) (c : Nat) (w : World) (hA : HL w w.heap.size A ls) (hm : ls.length ≤ 9223372036854775807) :
    Calls Tryd.prog 19 #[.slice A ls.length c] w fun e w' => e = .returned (.agg (nums .u8 (keyF ls))) ∧ Below w.heap.size w w' := by
  obtain ⟨n, hn⟩ : ∃ n, Hid (n = ls.length) := ⟨_, Lib.hid rfl⟩
  have H0 := Lib.hid (OutH.start w)
  have zZ : Hid ((nums .u8 (List.replicate 32 0)).size = 32) := Lib.hid (by rw [nums_size]; simp)
  have oZ : Hid ((nums .u8 (List.replicate 32 0)).all (·.oneCell') = true) := Lib.hid (nums_one _ _)
  have hZ := sizeH _ zZ.out
  rw [← hn.out]
  by_cases h5 : n = 512
  · have d1 : ((n : Int) != 512) = false := by rw [h5]; rfl
    have hl : Hid (ls.length = 512) := Lib.hid (by rw [← hn.out]; exact h5)
    have HF : Hid (keyF ls = sumL (strOfNums (4 :: ls.flatten))) := Lib.hid (by rw [keyF_ok hl.out, str_cons]; rfl)
    obtain ⟨C, hC⟩ : ∃ C, Hid (C = nums .u8 (keyF ls)) := ⟨_, Lib.hid rfl⟩
    have zC : Hid (C.size = 32) := Lib.hid (by rw [hC.out, nums_size]; exact (keyF_is _).1)
    have oC : Hid (C.all (·.oneCell') = true) := Lib.hid (by rw [hC.out]; exact nums_one _ _)
    obtain ⟨S, hS⟩ : ∃ S, Hid (S = strOfNums (4 :: ls.flatten)) := ⟨_, Lib.hid rfl⟩
    have X1 : Hid (∀ W, Calls Tryd.prog 27 #[.string S] W fun e w' => e = .returned (.agg C) ∧ Below W.heap.size W w') := Lib.hid fun W => by
      rw [hC.out, HF.out, ← hS.out]
      exact refSum_any S (by rw [hS.out, strOfNums_size, List.length_cons, flat_size hh, hl.out]; decide) W
    obtain ⟨ad, rfl⟩ := hA.some 0 (by rw [hl.out]; decide)
    have HA := Lib.hid hA
    have HH := Lib.hid hh
    rw [← hC.out]
    rw [h5]
    clear hA hh hm hn h5 d1
    go_enter Tryd.func19, Tryd.ntmps19
    go_upto_region 1 with fail
    refine world_gen (fun X => OutH w X) H0.out (fun X HX => ?_)
    have HK := Lib.hid (KeyH.start HX.1 HX.2)
    clear HX
    go_wp2
    go_loopw [3, 4] (fun s3 s4 wr => ∃ (k : Nat) (v : Value), s4 = .int .i64 ((k : Nat) : Int) ∧ v = s3 ∧ k ≤ 512 ∧ Hid (KeyH w wr v (1 + 32 * k) (4 :: (ls.take k).flatten))) (fun _ s4 _ => (512 - intOf s4).toNat)
    case atStart => exact ⟨0, _, rfl, rfl, by omega, HK⟩
    case round =>
      clear HK
      obtain ⟨k, v, rfl, rfl, hk, HQ⟩ := hrel
      by_cases hlt : k < 512
      · have hkl : k < ls.length := by rw [hl.out]; exact hlt
        have hwk : IntKind.i64.wrap (k : Int) = (k : Int) := by rw [IntKind.wrap_i64]; omega
        have k0 : (0 : Int) ≤ (k : Int) := by omega
        have k1 : (k : Int) < 512 := by omega
        have HB : Hid (BytesAt wr (ad.add (k * 32)) (ls.getD k [])) := Lib.hid ((HA.out.next HQ.out.below (Nat.le_refl _)).bytes HH.out k hkl)
        have h32 : Hid ((ls.getD k []).length = 32) := Lib.hid (hashes_at HH.out k hkl).1
        have HN : Hid (4 :: (ls.take (k + 1)).flatten = (4 :: (ls.take k).flatten) ++ ls.getD k []) := Lib.hid (by
          rw [List.take_succ_eq_append_getElem hkl, List.flatten_append, List.getD_eq_getElem?_getD, List.getElem?_eq_getElem hkl]; simp)
        clear hkl
        go_wp2_with (at_builtin; refine wpList_appendB rfl (.tmp 14) (.tmp 18) rfl (w.heap.size + 1) _ _ _ _ rfl HQ.out.own (ad.add (k * 32)) 32 32 rfl h32.out HB.out (by omega) (by have := HQ.out.out.lt; omega) ?_)
        intro v' w1 hown hg
        have HQ2 : Hid (KeyH w w1 v' (1 + 32 * (k + 1)) (4 :: (ls.take (k + 1)).flatten)) := Lib.hid (by rw [HN.out, show 1 + 32 * (k + 1) = 1 + 32 * k + 32 by omega]; exact HQ.out.put hown hg)
        clear hown hg
        go_wp2
        go_roundw
        case rel => exact ⟨k + 1, _, by go_num, rfl, by omega, HQ2⟩
        case measure => simp [intOf]; omega
      · have hk9 : k = 512 := by omega
        have HQ2 : Hid (KeyH w wr v 16385 (4 :: ls.flatten)) := Lib.hid (by
          have := HQ.out
          rw [hk9, List.take_of_length_le (by rw [hl.out]; exact Nat.le_refl _)] at this
          exact this)
        clear HQ hk9
        have c1 : (convert 41 9 v).run Tryd.prog wr = .ok (.string S) wr := by rw [hS.out]; exact convB HQ2.out.own (by decide)
        go_wp2_with (go_at_call 27; (with_reducible refine (X1.out _).mono ?_); rintro e w1 ⟨rfl, hb⟩; have HR := Lib.hid (HQ2.out.out.next hb); have HB := Lib.hid (below_new HQ2.out.below hb); clear hb c1; have s6 := HR.out.write zZ.out zC.out oC.out)
        refine bodyPost_ret (results_cell_row rfl _ _ w.heap.size 24 _ (0, 0) _ rfl (HR.out.whole _) Tryd.underlying24 rfl (sizeH _ zC.out)) rfl ⟨rfl, below_setRow HB.out (Nat.le_refl _)⟩
  · have d1 : ((n : Int) != 512) = true := by simp; omega
    have HF : Hid (keyF ls = zeroL) := Lib.hid (keyF_no (by rw [← hn.out]; exact h5))
    clear hA hh hm h5
    go_enter Tryd.func19, Tryd.ntmps19
    go_upto_region 1 with fail
    refine world_gen (fun X => OutH w X) H0.out (fun X HX => ?_)
    have HX := Lib.hid HX
    go_wp2_with (refine wpList_store_row rfl 24 _ _ rfl w.heap.size (nums .u8 (List.replicate 32 0)) rfl rfl 24 _ HX.out.1 hZ (by rw [zZ.out]) oZ.out ?_)
    refine bodyPost_ret (results_cell_row rfl _ _ w.heap.size 24 _ (0, 0) _ rfl (HX.out.1.whole _) Tryd.underlying24 rfl hZ) rfl ⟨by rw [HF.out]; rfl, below_setRow HX.out.2 (Nat.le_refl _)⟩
end Go.Proofs.YtllabnhgiojmmaaDoor
