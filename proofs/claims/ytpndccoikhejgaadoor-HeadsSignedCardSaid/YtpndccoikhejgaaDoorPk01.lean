/-
  ShaT.
-/
import Derived.Test.YtpndccoikhejgaaDoorPk00
namespace Go.Proofs.YtpndccoikhejgaaDoor
open Go.RowKit
set_option linter.unusedVariables false

theorem size8 : (Tryd.prog.info? 93).map (·.size) = some 8 := by kernel_rfl
theorem one8 (a b c d e f g h : Int) : (#[Value.int .u32 a, .int .u32 b, .int .u32 c, .int .u32 d, .int .u32 e, .int .u32 f, .int .u32 g, .int .u32 h].all (·.oneCell')) = true := nums_one .u32 [a, b, c, d, e, f, g, h]
/-- What holds at the head of each round. -/
def TurnHead (K W : List Int) (s0 : Sha.St) (w wr : World) (j : Nat) (a b c d e f g h : Int) : Prop :=
  Sha.St.mk a b c d e f g h = Sha.rnd K W s0 j ∧ Sha.St.ok ⟨a, b, c, d, e, f, g, h⟩ ∧ Row wr (w.heap.size + 1) 93 (nums .u32 [0, 0, 0, 0, 0, 0, 0, 0]) ∧ Below w.heap.size w wr
theorem TurnHead.next {K W : List Int} {s0 : Sha.St} {w wr : World} {j : Nat} {a b c d e f g h k x : Int} (H : TurnHead K W s0 w wr j a b c d e f g h) (hk : k = K.getD j 0) (hx : x = W.getD j 0) (n : Nat) :
    TurnHead K W s0 w (wr.drewN n) (j + 1) ((Sha.t1 e f g h k x + Sha.t2 a b c) % 4294967296) a b c ((d + Sha.t1 e f g h k x) % 4294967296) e f g := by
  have e1 : Sha.rnd K W s0 (j + 1) = (Sha.rnd K W s0 j).step (K.getD j 0) (W.getD j 0) := rfl
  have e2 := H.2.1
  have e3 := Sha.St.step_ok _ k x e2
  have e4 : (Sha.St.mk a b c d e f g h).step k x = ⟨(Sha.t1 e f g h k x + Sha.t2 a b c) % 4294967296, a, b, c, (d + Sha.t1 e f g h k x) % 4294967296, e, f, g⟩ := by simp only [Sha.St.step]
  rw [← H.1, ← hk, ← hx, e4] at e1
  rw [e4] at e3
  exact ⟨e1.symm, e3, H.2.2.1.drewN n, below_drewN H.2.2.2 n⟩
set_option maxHeartbeats 1000000 in
set_option maxRecDepth 100000 in
theorem turned_any (s : Sha.St) (W K : List Int) (bw : Nat) (w : World)
    (hW : Row w bw 96 (nums .u32 W)) (hWl : W.length = 64) (hK : ∀ i, i < 64 → w.cell? ⟨1, i, none⟩ = some (.int .u32 (K.getD i 0))) (h8 : s.ok) :
    Calls Tryd.prog 82 #[.agg s.cells, .pointer (some ⟨bw, 0, none⟩)] w fun ev w' => ev = .returned (.agg (Sha.rnd K W s 64).cells) ∧ Below w.heap.size w w' := by
  obtain ⟨a, b, c, d, e, f, g, h⟩ := s
  show Calls Tryd.prog 82 #[.agg #[.int .u32 a, .int .u32 b, .int .u32 c, .int .u32 d, .int .u32 e, .int .u32 f, .int .u32 g, .int .u32 h], .pointer (some ⟨bw, 0, none⟩)] w _
  have hWL := Lib.hid hWl
  have HW := Lib.hid hW
  have H8 := Lib.hid h8
  clear hWl hW h8
  go_enter Tryd.func82, Tryd.ntmps82
  go_wp2
  go_quiet (fail)
  go_wp2
  have H0 : Hid (TurnHead K W ⟨a, b, c, d, e, f, g, h⟩ w ((((w.alloc (.cells #[.int .u32 a, .int .u32 b, .int .u32 c, .int .u32 d, .int .u32 e, .int .u32 f, .int .u32 g, .int .u32 h] 93)).alloc (.cells (nums .u32 [0, 0, 0, 0, 0, 0, 0, 0]) 93)).drewN nq)) 0 a b c d e f g h) :=
    Lib.hid ⟨rfl, H8.out, (Row.made2 _ _ _ _).drewN _, below_drewN (((Below.refl _ _).alloc (Nat.le_refl _) _).alloc (by simp) _) _⟩
  go_loopw [5, 6, 7, 8, 9, 10, 11, 12, 32] (fun s5 s6 s7 s8 s9 s10 s11 s12 i wr => ∃ j : Nat, ∃ a' b' c' d' e' f' g' h' : Int, j ≤ 64 ∧ i = .int .i64 j ∧ s5 = .int .u32 a' ∧ s6 = .int .u32 b' ∧ s7 = .int .u32 c' ∧ s8 = .int .u32 d' ∧ s9 = .int .u32 e' ∧ s10 = .int .u32 f' ∧ s11 = .int .u32 g' ∧ s12 = .int .u32 h' ∧ Hid (TurnHead K W ⟨a, b, c, d, e, f, g, h⟩ w wr j a' b' c' d' e' f' g' h')) (fun _ _ _ _ _ _ _ _ i _ => (64 - intOf i).toNat)
  case atStart => exact ⟨0, a, b, c, d, e, f, g, h, by omega, rfl, rfl, rfl, rfl, rfl, rfl, rfl, rfl, rfl, H0⟩
  case round =>
    obtain ⟨j, a', b', c', d', e', f', g', h', hj, rfl, rfl, rfl, rfl, rfl, rfl, rfl, rfl, rfl, HH⟩ := hrel
    obtain ⟨ba, bb, bc, bd, be, bf, bg, bh⟩ := HH.out.2.1
    by_cases hlt : j < 64
    · obtain ⟨x, hx⟩ : ∃ x, Hid (x = W.getD j 0) := ⟨_, Lib.hid rfl⟩
      obtain ⟨k, hk⟩ : ∃ k, Hid (k = K.getD j 0) := ⟨_, Lib.hid rfl⟩
      have hWj := (HW.out.next HH.out.2.2.2).num (i := j) (by have := hWL.out; omega)
      have hKj := below_cell HH.out.2.2.2 (hK j hlt)
      rw [← hx.out] at hWj
      rw [← hk.out] at hKj
      clear hK
      go_wp2_with (go_at_call 91; (with_reducible refine (right_any _ _ _ (by omega)).mono ?_); rintro e w' ⟨rfl, rfl⟩)
      go_quiet ((go_at_call 91; exact still (right_any _ _ _ (by omega))))
      go_wp2_with (go_at_call 91; (with_reducible refine (right_any _ _ _ (by omega)).mono ?_); rintro e w' ⟨rfl, rfl⟩)
      go_roundw
      case rel => exact ⟨j + 1, _, _, _, _, _, _, _, _, by omega, by go_num, rfl, rfl, rfl, rfl, rfl, rfl, rfl, rfl, Lib.hid (HH.out.next hk.out hx.out _)⟩
      case measure => simp [intOf]; omega
    · obtain rfl : j = 64 := by omega
      have hR := HH.out.2.2.1
      clear hK
      go_wp2_with (refine wpList_store_row rfl 93 _ _ rfl (w.heap.size + 1) #[_, _, _, _, _, _, _, _] rfl rfl 93 _ hR size8 rfl (one8 _ _ _ _ _ _ _ _) ?_)
      refine bodyPost_ret (results_cell_row rfl _ _ (w.heap.size + 1) 93 _ (0, 0) _ rfl (hR.whole _) Tryd.underlying93 rfl size8) rfl ⟨?_, below_setRow HH.out.2.2.2 (by omega)⟩
      rw [← HH.out.1]; rfl
end Go.Proofs.YtpndccoikhejgaaDoor
