/-
  RefUnhash.
-/
import Derived.Test.YtgnkdkehooagpaaDoorPk09
namespace Go.Proofs.YtgnkdkehooagpaaDoor
open Go.RowKit
set_option linter.unusedVariables false
set_option maxRecDepth 100000

theorem take_moreU (l : List Int) (k : Nat) (h : k < l.length) : l.take (k + 1) = l.take k ++ [l.getD k 0] := by
  rw [List.take_succ_eq_append_getElem h]
  simp [List.getD, List.getElem?_eq_getElem h]
/-- What holds at the head of the rounds of the document's Unhash. -/
def UnhHead (w wr : World) (s : ByteArray) (k : Nat) : Prop :=
  Row wr w.heap.size 23 (nums .u8 (List.replicate 32 0)) ∧ Row wr (w.heap.size + 1) 23 (nums .u8 ((textL s).take k ++ List.replicate (32 - k) 0)) ∧ Below w.heap.size w wr
theorem UnhHead.start (w : World) (s : ByteArray) : UnhHead w ((w.alloc (.cells (nums .u8 (List.replicate 32 0)) 23)).alloc (.cells (nums .u8 (List.replicate 32 0)) 23)) s 0 :=
  ⟨(Row.made _ _ _).alloc _, Row.made2 _ _ _ _, ((Below.refl _ _).alloc (Nat.le_refl _) _).alloc (by simp) _⟩
theorem UnhHead.next {w wr : World} {s : ByteArray} {k : Nat} (H : UnhHead w wr s k) (hk : k < 32) (hs : k < s.size) : UnhHead w (wr.setCell ⟨w.heap.size + 1, k, none⟩ (.int .u8 ((s[k].toNat : Nat) : Int))) s (k + 1) := by
  refine ⟨H.1.far (by simp) _, ?_, H.2.2.setCell (by simp) _⟩
  have h := H.2.1.numPut k ((s[k].toNat : Nat) : Int)
  have hl : ((textL s).take k).length = k := by rw [List.length_take, textL_length]; omega
  have e : ((textL s).take k ++ List.replicate (32 - k) 0).set k ((s[k].toNat : Nat) : Int) = (textL s).take (k + 1) ++ List.replicate (32 - (k + 1)) 0 := by
    rw [show 32 - k = (32 - (k + 1)) + 1 by omega, List.replicate_succ, List.set_append_right _ _ (by omega), hl, Nat.sub_self, List.set_cons_zero, take_moreU (textL s) k (by rw [textL_length]; exact hs), textL_getD s k hs]
    simp
  rwa [e] at h
attribute [local go_sem ↓ high] read_at write_at
set_option maxHeartbeats 1000000 in
set_option maxRecDepth 100000 in
theorem refUnhash_any (s : ByteArray) (hs : s.size ≤ maxLen) (w : World) :
    Calls Tryd.prog 52 #[.string s] w fun e w' => e = .returned (unhV s) ∧ Below w.heap.size w w' := by
  unfold maxLen at hs
  have H0 := Lib.hid (UnhHead.start w s)
  have h6 : Hid ((Tryd.prog.info? 23).map (·.size) = some (nums .u8 (List.replicate 32 0)).size) := Lib.hid (by kernel_rfl)
  have h3 := nums_one .u8 (List.replicate 32 0)
  go_enter Tryd.func52, Tryd.ntmps52
  go_upto_region 1 with fail
  go_cut [2, 3, 4, 5] (fun s2 s3 s4 s5 wx => s2 = .pointer (some ⟨w.heap.size, 0, none⟩) ∧ s3 = .string ⟨#[]⟩ ∧ s4 = .bool false ∧ s5 = .pointer (some ⟨w.heap.size + 1, 0, none⟩) ∧ Hid (UnhHead w wx s 0))
  case first =>
    go_wp2_with fail
    go_meet
    exact ⟨rfl, rfl, rfl, rfl, H0⟩
  case rest =>
  obtain ⟨rfl, rfl, rfl, rfl, HH⟩ := hcut
  clear H0
  by_cases hlt : s.size < 32
  · have hV := Lib.hid (unhV_no s hlt)
    have hd : decide ((s.size : Int) < 32) = true := decide_eq_true (by omega)
    have h1 := HH.out.1
    have h2 : Row wc (w.heap.size + 1) 23 (nums .u8 (List.replicate 32 0)) := by have := HH.out.2.1; simpa using this
    have HB := Lib.hid HH.out.2.2
    clear HH
    go_wp2_with (first
      | (refine wpList_load_row rfl 23 _ rfl (w.heap.size + 1) rfl 23 _ (0, 0) _ h2 Tryd.underlying23 rfl h6.out ?_)
      | (refine wpList_store_row rfl 23 _ _ rfl w.heap.size (nums .u8 (List.replicate 32 0)) rfl rfl 23 _ h1 h6.out rfl h3 ?_))
    refine bodyPost_ret (results_row3b (p := 2) (u := 3) (v := 4) rfl _ _ w.heap.size 23 _ (0, 0) _ rfl (h1.whole _) Tryd.underlying23 rfl h6.out) rfl ⟨ret_unh hV.out, below_setRow HB.out (Nat.le_refl _)⟩
  · have hV := Lib.hid (unhV_yes s hlt)
    have hd : decide ((s.size : Int) < 32) = false := decide_eq_false (by omega)
    have h32 : 32 ≤ s.size := by omega
    clear hlt
    go_wp2
    go_loopw [6] (fun s6 wr => ∃ k : Nat, k ≤ 32 ∧ s6 = .int .i64 ((k : Nat) : Int) ∧ Hid (UnhHead w wr s k)) (fun s6 _ => (32 - intOf s6).toNat)
    case atStart => exact ⟨0, by omega, rfl, HH⟩
    case round =>
      clear HH
      obtain ⟨k, hk, rfl, HH⟩ := hrel
      by_cases hlt : k < 32
      · have hks : k < s.size := by omega
        have hc := HH.out.2.1.num (i := k) (by rw [List.length_append, List.length_take, textL_length]; simp; omega)
        have hf := HH.out.2.1.free k
        go_wp2
        go_roundw
        case rel => exact ⟨k + 1, by omega, by go_num, Lib.hid (HH.out.next hlt hks)⟩
        case measure => simp [intOf]; omega
      · have hk9 : Hid (k = 32) := Lib.hid (by omega)
        obtain ⟨C, hC⟩ : ∃ C, Hid (C = nums .u8 ((textL s).take 32)) := ⟨_, Lib.hid rfl⟩
        have zC : Hid (C.size = 32) := Lib.hid (by rw [hC.out, nums_size, List.length_take, textL_length]; omega)
        have oC : Hid (C.all (·.oneCell') = true) := Lib.hid (by rw [hC.out]; exact nums_one _ _)
        have h2 : Hid (Row wr (w.heap.size + 1) 23 C) := Lib.hid (by
          have h := HH.out.2.1
          rw [hk9.out] at h
          rw [hC.out]
          simpa using h)
        have zZ : Hid ((nums .u8 (List.replicate 32 0)).size = 32) := Lib.hid (by rw [nums_size]; simp)
        rw [← hC.out] at hV
        have s1 := h2.out.drew.read zC.out
        have s2 := HH.out.1.drew.write zZ.out zC.out oC.out
        go_wp2_with fail
        go_region
        all_goals
          go_wp2
          refine bodyPost_ret (results_row3b (p := 2) (u := 3) (v := 4) rfl _ _ w.heap.size 23 _ (0, 0) _ rfl (HH.out.1.drew.whole _) Tryd.underlying23 rfl (sizeH _ zC.out)) rfl ⟨ret_unh hV.out, below_setRow HH.out.2.2.drew (Nat.le_refl _)⟩
end Go.Proofs.YtgnkdkehooagpaaDoor
