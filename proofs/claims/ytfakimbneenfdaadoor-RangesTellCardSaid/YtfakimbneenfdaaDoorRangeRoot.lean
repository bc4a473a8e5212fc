/-
  The walk of a range's Root (layer 5). Conditions: the two tables as they were laid, a list of hashes in memory. What it makes is new memory; nothing that was there changes.
-/
import Derived.Test.YtfakimbneenfdaaDoorListMem
import Derived.Test.YtfakimbneenfdaaDoorRangeBack
namespace Go.Proofs.YtfakimbneenfdaaDoor
open Go.RowKit Go.Shelf
set_option linter.unusedVariables false
set_option maxRecDepth 100000

/-- A range's root, and the error. -/
def rootF (s : Int) (hs : List (List Int)) : List Int × Int := if validB s hs.length = true then (rootFold hs, 0) else (zero32, 2)
theorem rootF_no {s : Int} {hs : List (List Int)} (h : validB s hs.length = false) : rootF s hs = (zero32, 2) := by unfold rootF; rw [if_neg (by simp [h])]
theorem rootF_ok {s : Int} {hs : List (List Int)} (h : validB s hs.length = true) : rootF s hs = (rootFold hs, 0) := by unfold rootF; rw [if_pos h]
theorem rootFold_is : ∀ hs : List (List Int), hashes hs → (rootFold hs).length = 32 ∧ bytes (rootFold hs)
  | [], _ => ⟨sumL_length _, sumL_bytes _⟩
  | [x], h => h x (by simp)
  | x :: y :: l, _ => nodeL_is _ _
theorem rootF_is (s : Int) (hs : List (List Int)) (h : hashes hs) : (rootF s hs).1.length = 32 ∧ bytes (rootF s hs).1 := by
  unfold rootF
  split
  · exact rootFold_is hs h
  · exact ⟨rfl, zero32_bytes⟩
/-- A hash and an error are returned. -/
def GivesH (w : World) (r : List Int × Int) (e : Ending) (w' : World) : Prop := e = .returned (.tuple #[.agg (nums .u8 r.1), .int .i64 r.2]) ∧ Below w.heap.size w w'
/-- Hashes put together from the last one on, place by place. -/
def foldB (hs : List (List Int)) (x : List Int) (l : List Nat) : List Int := l.foldl (fun acc i => nodeL (hs.getD i []) acc) x
theorem foldB_snoc (hs : List (List Int)) (x : List Int) (l : List Nat) (i : Nat) : foldB hs x (l ++ [i]) = nodeL (hs.getD i []) (foldB hs x l) := by simp [foldB]
theorem rootFold_two (l : List (List Int)) (a x : List Int) : rootFold (l ++ [a, x]) = rootFold (l ++ [nodeL a x]) := by
  induction l with
  | nil => rfl
  | cons b l ih =>
    cases l with
    | nil => rfl
    | cons c l => exact congrArg (nodeL b) ih
theorem foldB_down (hs : List (List Int)) (n : Nat) : n ≤ hs.length → ∀ x, foldB hs x (List.range n).reverse = rootFold (hs.take n ++ [x]) := by
  induction n with
  | zero => intro _ x; rfl
  | succ n ih =>
    intro h x
    rw [range_down]
    show foldB hs (nodeL (hs.getD n []) x) (List.range n).reverse = _
    rw [ih (by omega), List.take_succ_eq_append_getElem (by omega), List.append_assoc]
    have e : hs.getD n [] = hs[n] := by rw [List.getD_eq_getElem?_getD, List.getElem?_eq_getElem (by omega)]; rfl
    rw [e]
    exact (rootFold_two _ _ _).symm
theorem foldB_is (hs : List (List Int)) (x : List Int) (hx : x.length = 32 ∧ bytes x) (l : List Nat) : (foldB hs x l).length = 32 ∧ bytes (foldB hs x l) := by
  induction l generalizing x with
  | nil => exact hx
  | cons i l ih => exact ih _ (nodeL_is _ _)
/-- What Root holds: its range, its result. -/
structure RootH (w wr : World) (s : Int) (A : Option Addr) (n c : Nat) : Prop where
  rg : Row wr w.heap.size 24 #[.int .i64 s, .slice A n c]
  out : Row wr (w.heap.size + 1) 31 (nums .u8 (List.replicate 32 0))
  below : Below w.heap.size w wr
theorem RootH.start (w : World) (s : Int) (A : Option Addr) (n c : Nat) : RootH w ((w.alloc (.cells #[.int .i64 s, .slice A n c] 24)).alloc (.cells (nums .u8 (List.replicate 32 0)) 31)) s A n c :=
  ⟨(Row.made _ _ _).alloc _, Row.made2 _ _ _ _, ((Below.refl _ _).alloc (Nat.le_refl _) _).alloc (by simp) _⟩
theorem RootH.next {w wr w1 : World} {s : Int} {A : Option Addr} {n c : Nat} (h : RootH w wr s A n c) (hb : Below wr.heap.size wr w1) : RootH w w1 s A n c := ⟨h.rg.next hb, h.out.next hb, below_new h.below hb⟩
attribute [local go_sem ↓ high] read_at write_at
set_option maxHeartbeats 4000000 in
theorem rroot_few (w : World) (hT : Tab w) (s : Int) (A : Option Addr) (c : Nat) (hs : List (List Int)) (h0 : validB s hs.length = false ∨ s = 0 ∧ hs = []) :
    Calls Tryd.prog 15 #[.agg #[.int .i64 s, .slice A hs.length c]] w (GivesH w (rootF s hs)) := by
  obtain ⟨n, hn⟩ : ∃ n, Hid (n = hs.length) := ⟨_, Lib.hid rfl⟩
  rw [← hn.out] at h0 ⊢
  have HB := Lib.hid (RootH.start w s A n c)
  have zZ : Hid ((nums .u8 (List.replicate 32 0)).size = 32) := Lib.hid (by rw [nums_size]; simp)
  have hZ := sizeH _ zZ.out
  have oZ : Hid ((nums .u8 (List.replicate 32 0)).all (·.oneCell') = true) := Lib.hid (nums_one _ _)
  rcases h0 with hv | ⟨rfl, rfl⟩
  · have V1 : Hid (∀ W, Calls Tryd.prog 18 #[.agg #[.int .i64 s, .slice A n c]] W fun e w' => e = .returned (.bool false) ∧ Below W.heap.size W w') := Lib.hid fun W => by
      rw [← hv]; exact valid_any s A n c W
    have HF : Hid (rootF s hs = (zero32, 2)) := Lib.hid (rootF_no (by rw [← hn.out]; exact hv))
    clear hT hv
    go_enter Tryd.func15, Tryd.ntmps15
    go_upto_region 1 with fail
    refine world_gen (fun wx => RootH w wx s A n c) HB.out (fun wx HX => ?_)
    have HX := Lib.hid HX
    have c0 := HX.out.rg.cell 0
    have c1 := HX.out.rg.cell 1
    go_wp2_with (first
      | (go_at_call 18; (with_reducible refine (V1.out _).mono ?_); rintro e w1 ⟨rfl, hb2⟩; have HY := Lib.hid (HX.out.next hb2); clear hb2 c0 c1)
      | (refine wpList_store_row rfl 31 _ _ rfl (w.heap.size + 1) (nums .u8 (List.replicate 32 0)) rfl rfl 31 _ HY.out.out hZ (by rw [zZ.out]) oZ.out ?_))
    refine bodyPost_ret (results_row2 rfl _ _ (w.heap.size + 1) 31 _ (0, 0) _ rfl (HY.out.out.whole _) Tryd.underlying31 rfl hZ _ rfl) rfl ?_
    unfold GivesH
    rw [HF.out]
    exact ⟨rfl, below_setRow HY.out.below (by omega)⟩
  · have hn0 : n = 0 := hn.out
    subst hn0
    have V1 : Hid (∀ W, Calls Tryd.prog 18 #[.agg #[.int .i64 0, .slice A 0 c]] W fun e w' => e = .returned (.bool true) ∧ Below W.heap.size W w') := Lib.hid fun W => by
      have := valid_any 0 A 0 c W
      rwa [validB_yes ⟨by decide, by decide, by rw [show (0 : Int).toNat = 0 from rfl, ones_zero]⟩] at this
    have HF : Hid (rootF 0 [] = (sumL ⟨#[]⟩, 0)) := Lib.hid (rootF_ok (validB_yes ⟨by decide, by decide, by rw [show (0 : Int).toNat = 0 from rfl, ones_zero]; rfl⟩))
    obtain ⟨C, hC⟩ : ∃ C, Hid (C = nums .u8 (sumL ⟨#[]⟩)) := ⟨_, Lib.hid rfl⟩
    have zC : Hid (C.size = 32) := Lib.hid (by rw [hC.out, nums_size]; exact sumL_length _)
    have oC : Hid (C.all (·.oneCell') = true) := Lib.hid (by rw [hC.out]; exact nums_one _ _)
    have hC6 := sizeH _ zC.out
    have T1 : Hid (∀ W, Below w.heap.size w W → Calls Tryd.prog 29 #[.slice none 0 0] W fun e w' => e = .returned (.agg C) ∧ Below W.heap.size W w') := Lib.hid fun W hW => by
      have := root_any [] (fun _ h => nomatch h) none 0 W (HL.nil _ _ _) (hT.next hW) (by decide)
      rw [rootL_none [] rfl, ← hC.out] at this
      exact this
    clear hT
    go_enter Tryd.func15, Tryd.ntmps15
    go_upto_region 1 with fail
    refine world_gen (fun wx => RootH w wx 0 A 0 c) HB.out (fun wx HX => ?_)
    have HX := Lib.hid HX
    have c0 := HX.out.rg.cell 0
    have c1 := HX.out.rg.cell 1
    go_wp2_with (first
      | (go_at_call 18; (with_reducible refine (V1.out _).mono ?_); rintro e w1 ⟨rfl, hb2⟩; have HY := Lib.hid (HX.out.next hb2); clear hb2 c0 c1; have c0 := HY.out.rg.cell 0; have HBY := Lib.hid HY.out.below)
      | (go_at_call 29; (with_reducible refine (T1.out _ HBY.out).mono ?_); rintro e w2 ⟨rfl, hb2⟩; have HZ := Lib.hid (HY.out.next hb2); clear hb2 c0)
      | (refine wpList_store_row rfl 31 _ _ rfl (w.heap.size + 1) C rfl rfl 31 _ HZ.out.out hC6 (by rw [zC.out, zZ.out]) oC.out ?_))
    refine bodyPost_ret (results_row2 rfl _ _ (w.heap.size + 1) 31 _ (0, 0) _ rfl (HZ.out.out.whole _) Tryd.underlying31 rfl hC6 _ rfl) rfl ?_
    unfold GivesH
    rw [HF.out]
    exact ⟨by rw [hC.out]; rfl, below_setRow HZ.out.below (by omega)⟩
end Go.Proofs.YtfakimbneenfdaaDoor
