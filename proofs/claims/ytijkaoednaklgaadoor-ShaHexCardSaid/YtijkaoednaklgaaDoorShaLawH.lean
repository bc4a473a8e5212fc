/-
  The walk of the statement ShaHex: it returns true, for every hash and every text; what it makes is new memory, nothing that was there changes. Condition: the two tables as they were laid.
-/
import Derived.Test.YtijkaoednaklgaaDoorShaEq
import Derived.Test.YtijkaoednaklgaaDoorShaLawA
import Derived.Test.YtijkaoednaklgaaDoorShaCells
import Derived.Deep.RegionHeld3
import Derived.Deep.MidRow
import Derived.Deep.DeepCutAuto
namespace Go.Proofs.YtijkaoednaklgaaDoor
open Go.RowKit
set_option linter.unusedVariables false

def Three (w wr : World) (g2 g5 g7 : Nat) (C D E : Array Value) : Prop := Row wr g2 24 C ∧ Row wr g5 24 D ∧ Row wr g7 24 E ∧ Below w.heap.size w wr
theorem Three.next {w wr w1 : World} {g2 g5 g7 : Nat} {C D E : Array Value} (h : Three w wr g2 g5 g7 C D E) (hb : Below wr.heap.size wr w1) : Three w w1 g2 g5 g7 C D E :=
  ⟨h.1.next hb, h.2.1.next hb, h.2.2.1.next hb, below_new h.2.2.2 hb⟩
theorem Three.drew {w wr : World} {g2 g5 g7 : Nat} {C D E : Array Value} (h : Three w wr g2 g5 g7 C D E) : Three w wr.drew g2 g5 g7 C D E := ⟨h.1.drew, h.2.1.drew, h.2.2.1.drew, h.2.2.2.drew⟩
attribute [local go_sem ↓ high] read_at
set_option maxHeartbeats 4000000 in
set_option maxRecDepth 100000 in
theorem hexlaw_short (l : List Int) (s : ByteArray) (w : World) (hT : Tab w) (hl : l.length = 32) (hb : bytes l) (hs : s.size ≤ 200) :
    Calls Tryd.prog 4 #[.agg (nums .u8 l), .string s] w fun e w' => e = .returned (.bool true) ∧ Below w.heap.size w w' := by
  have hsm : s.size ≤ maxLen := by unfold maxLen; omega
  obtain ⟨C, hC⟩ : ∃ C, Hid (C = nums .u8 l) := ⟨_, Lib.hid rfl⟩
  obtain ⟨D, hD⟩ : ∃ D, Hid (D = nums .u8 (parseL s)) := ⟨_, Lib.hid rfl⟩
  have zC : Hid (C.size = 32) := Lib.hid (by rw [hC.out, nums_size, hl])
  have zD : Hid (D.size = 32) := Lib.hid (by rw [hD.out, nums_size, parseL_length])
  obtain ⟨b, hbb⟩ : ∃ b, Hid (b = okS s) := ⟨_, Lib.hid rfl⟩
  obtain ⟨T, hTT⟩ : ∃ T, Hid (T = hexS l) := ⟨_, Lib.hid rfl⟩
  have P1 : Hid (∀ W, Calls Tryd.prog 9 #[.string s] W fun e w' => e = .returned (.tuple #[.agg D, .bool b]) ∧ Below W.heap.size W w') := Lib.hid fun W => by rw [hD.out, hbb.out]; exact parse_any s hsm W
  have P2 : Hid (∀ W, Calls Tryd.prog 10 #[.string s] W fun e w' => e = .returned (.tuple #[.agg D, .bool b]) ∧ Below W.heap.size W w') := Lib.hid fun W => by rw [hD.out, hbb.out]; exact refParse_any s hsm W
  have X1 : Hid (∀ W, Calls Tryd.prog 11 #[.agg C] W fun e w' => e = .returned (.string T) ∧ Below W.heap.size W w') := Lib.hid fun W => by rw [hC.out, hTT.out]; exact hex_any l hl hb W
  have X2 : Hid (∀ W, Calls Tryd.prog 12 #[.agg C] W fun e w' => e = .returned (.string T) ∧ Below W.heap.size W w') := Lib.hid fun W => by rw [hC.out, hTT.out]; exact refHex_any l hl hb W
  have Q1 : ∀ W, (binOp .eql 24 (.agg D) (.agg D)).run Tryd.prog W = .ok (.bool true) W := fun W => by
    rw [hD.out, eql_hash _ _ (parseL_length s) (parseL_length s) (parseL_bytes s) (parseL_bytes s) W, decide_eq_true rfl]
  have Q2 := fun W => eql_text T W
  have Q3 := fun W => eql_bool b W
  have iD : Hid ((Tryd.prog.info? 24).map (·.size) = some D.size) := Lib.hid (by rw [zD.out]; kernel_rfl)
  have oD : Hid (D.all (·.oneCell') = true) := Lib.hid (by rw [hD.out]; exact nums_one _ _)
  have hC0 : C = nums .u8 l := hC.out
  have HT := Lib.hid hT
  rw [← hC0]
  clear hsm hC0 hT hl hb
  have HA : Hid (Row (w.alloc (.cells C 24)) w.heap.size 24 C ∧ Below w.heap.size w (w.alloc (.cells C 24))) := Lib.hid ⟨Row.made _ _ _, (Below.refl _ _).alloc (Nat.le_refl _) _⟩
  go_enter Tryd.func4, Tryd.ntmps4
  go_upto_region 3 with fail
  go_cut [5, 6] (fun s5 s6 wx => ∃ g5, s5 = .pointer (some ⟨g5, 0, none⟩) ∧ s6 = .bool b ∧ Hid (Row wx w.heap.size 24 C ∧ Row wx g5 24 D ∧ Below w.heap.size w wx))
  case first =>
    go_wp2_with (first
      | (go_at_call 9; (with_reducible refine (P1.out _).mono ?_); rintro e w1 ⟨rfl, hb1⟩)
      | (refine wpList_store_fresh rfl 24 _ _ rfl D rfl rfl 24 _ iD.out (by rw [zD.out]; rfl) oD.out ?_; intro w2 hS2 hb2))
    go_meet
    exact ⟨_, rfl, rfl, Lib.hid ⟨(HA.out.1.next hb1).next hb2, hS2, below_new (below_new HA.out.2 hb1) hb2⟩⟩
  case rest =>
  obtain ⟨g5, rfl, rfl, HW⟩ := hcut
  clear HA
  go_upto_region 4 with fail
  go_cut [7, 8] (fun s7 s8 wx => ∃ g7, s7 = .pointer (some ⟨g7, 0, none⟩) ∧ s8 = .bool b ∧ Hid (Three w wx w.heap.size g5 g7 C D D))
  case first =>
    go_wp2_with (first
      | (go_at_call 10; (with_reducible refine (P2.out _).mono ?_); rintro e w3 ⟨rfl, hb3⟩)
      | (refine wpList_store_fresh rfl 24 _ _ rfl D rfl rfl 24 _ iD.out (by rw [zD.out]; rfl) oD.out ?_; intro w4 hS4 hb4))
    go_meet
    exact ⟨_, rfl, rfl, Lib.hid ⟨(HW.out.1.next hb3).next hb4, (HW.out.2.1.next hb3).next hb4, hS4, below_new (below_new HW.out.2.2 hb3) hb4⟩⟩
  case rest =>
  obtain ⟨g7, rfl, rfl, HA⟩ := hcut
  go_upto_region 5 with fail
  have HQ : Hid (Three w wc.drew w.heap.size g5 g7 C D D) := Lib.hid HA.out.drew
  have s1 := Row.read HQ.out.1 zC.out
  have s2 := Row.read HQ.out.2.1 zD.out
  have s3 := Row.read HQ.out.2.2.1 zD.out
  clear HA HW oD iD P1 P2
  go_region_with (first
    | (go_at_call 11; (with_reducible refine (X1.out _).mono ?_); rintro e w5 ⟨rfl, hb⟩; have HQ := Lib.hid (HQ.out.next hb); clear hb s1 s2 s3; have s1 := Row.read HQ.out.1 zC.out; have s2 := Row.read HQ.out.2.1 zD.out; have s3 := Row.read HQ.out.2.2.1 zD.out; have hbw := Lib.hid HQ.out.2.2.2)
    | (go_at_call 12; (with_reducible refine (X2.out _).mono ?_); rintro e w6 ⟨rfl, hb⟩; have HQ := Lib.hid (HQ.out.next hb); clear hb s1 s2 s3; have s1 := Row.read HQ.out.1 zC.out; have s2 := Row.read HQ.out.2.1 zD.out; have s3 := Row.read HQ.out.2.2.1 zD.out; have hbw := Lib.hid HQ.out.2.2.2)
    | (go_at_call 6; (with_reducible refine (hashed_any _ (HT.out.next hbw.out)).mono ?_); rintro e w7 ⟨rfl, hb⟩; have HZ := Lib.hid (below_new hbw.out hb); clear hb))
  all_goals trace "way"
  all_goals (go_wp2; go_ret; exact ⟨rfl, HZ.out⟩)
end Go.Proofs.YtijkaoednaklgaaDoor
