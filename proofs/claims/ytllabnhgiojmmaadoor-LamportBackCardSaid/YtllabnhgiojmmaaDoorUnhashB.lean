/-
  The walks of codec.Unhash and the document's Hash and Unhash (layer 3); what they make is new memory, nothing that was there changes.
-/
import Derived.Test.YtllabnhgiojmmaaDoorHash
import Derived.Test.YtllabnhgiojmmaaDoorTreeCells
import Derived.Test.YtllabnhgiojmmaaDoorText
import Derived.Laws.ResultCell
import Derived.Deep.RegionLaw
import Derived.Deep.DeepCutAuto
namespace Go.Proofs.YtllabnhgiojmmaaDoor
open Go.RowKit
set_option linter.unusedVariables false

/-- The hash that stands ahead of a text, or none. -/
def unhV (s : ByteArray) : Value := if s.size < 32 then .tuple #[.agg (nums .u8 (List.replicate 32 0)), .string ⟨#[]⟩, .bool false]
  else .tuple #[.agg (nums .u8 ((textL s).take 32)), .string (s.extract 32 s.size), .bool true]
theorem unhV_no (s : ByteArray) (h : s.size < 32) : unhV s = .tuple #[.agg (nums .u8 (List.replicate 32 0)), .string ⟨#[]⟩, .bool false] := by unfold unhV; rw [if_pos h]
theorem unhV_yes (s : ByteArray) (h : ¬ s.size < 32) : unhV s = .tuple #[.agg (nums .u8 ((textL s).take 32)), .string (s.extract 32 s.size), .bool true] := by unfold unhV; rw [if_neg h]
/-- A text's first bytes, copied over a whole row. -/
theorem run_copy_front {P : Program} (w : World) (dT sT ty elem : TypeId) (g n dCap : Nat) (s : ByteArray) (cur : Array Value) (t : TypeId)
    (hu : P.underlying dT = some (.slice elem)) (hs : (P.info? elem).map (·.size) = some 1) (hg : Row w g t cur) (hle : n ≤ s.size) (hn : cur.size = n) :
    (Builtin.copy_ #[dT, sT] ty #[.slice (some ⟨g, 0, none⟩) n dCap, .string s]).run P w = .ok (goInt n) (w.setRow g (nums .u8 ((textL s).take n))) := by
  have hl : ((textL s).take n).length = n := by rw [List.length_take, textL_length]; omega
  have hone : ∀ v ∈ (nums .u8 ((textL s).take n)).toList, v.oneCell' = true := by
    intro v hv
    have := nums_one .u8 ((textL s).take n)
    rw [Array.all_eq_true_iff_forall_mem] at this
    exact this v (by simpa using hv)
  have hlen : (nums .u8 ((textL s).take n)).toList.length = n := by rw [Array.length_toList, nums_size, hl]
  have hst := run_storeCells_at P g 0 t (nums .u8 ((textL s).take n)).toList 0 cur w hg (by rw [hlen]; omega) hone
  have hmin : Nat.min s.size n = n := Nat.min_eq_right hle
  have htk : List.take n (List.map (fun b : UInt8 => Value.int IntKind.u8 (b.toNat : Int)) s.data.toList) = (nums .u8 ((textL s).take n)).toList := by
    unfold nums textL
    rw [List.map_take, List.map_map]
    simp only [Function.comp_def]
  rw [hlen] at hst
  simp only [Nat.add_zero] at hst
  cases hq : P.info? elem with
  | none => simp [hq] at hs
  | some i =>
    simp [Builtin.copy_, run_underlying hu, Builtin.lenOf, Builtin.firstCells, sizeOf, typeInfo, hq, hmin]
    rw [htk, hst]
    simp [Result.andThen]
    rw [List.drop_of_length_le (by simp; omega)]
    simp
theorem wpList_copy_front {P : Program} {w : World} {ops : Array Oper} {rest : List Oper} {o : Oper} {a : Act} {Q : Exit → Act → World → Prop} (hgd : o.guard = none) (d x : Operand) (dT sT : TypeId)
    (ho : o.op = .call { callee := .builtin .copy, args := #[d, x], argTypes := #[dT, sT] }) (elem : TypeId) (hu : P.underlying dT = some (.slice elem)) (hs : (P.info? elem).map (·.size) = some 1)
    (g n dCap : Nat) (hd : a.eval d = .slice (some ⟨g, 0, none⟩) n dCap) (s : ByteArray) (hx : a.eval x = .string s) (cur : Array Value) (t : TypeId) (hg : Row w g t cur) (hle : n ≤ s.size) (hn : cur.size = n)
    (h : wpList P ops Q rest (a.put o.dst (goInt n)) (w.setRow g (nums .u8 ((textL s).take n)))) : wpList P ops Q (o :: rest) a w := by
  refine wpList_plain hgd fun K hK => ?_
  have hrun := run_copy_front (P := P) w dT sT o.type elem g n dCap s cur t hu hs hg hle hn
  unfold Oper.wp
  simp [execOp, ho, resolve, invoke, builtin, hd, hx, hrun, Result.andThen]
  exact hK _ _ h
theorem results_row3b {P : Program} {fn : Func} {p u v : Tmp} {ty : TypeId} (h : fn.results = #[.cell p ty, .tmp u, .tmp v]) (tmps : Array Value) (w : World) (g : Nat) (t : TypeId) (cs : Array Value) (fr : Nat × Nat) (d : TypeDesc)
    (hp : tmps.getD p undef = .pointer (some ⟨g, 0, none⟩)) (hg : w.heap[g]? = some (.cells cs t fr)) (hu : P.underlying ty = some d) (hd : (match d with | .struct _ | .array _ _ => true | _ => false) = true) (hi : (P.info? ty).map (·.size) = some cs.size) :
    (results fn tmps).run P w = .ok (.tuple #[.agg cs, tmps.getD u undef, tmps.getD v undef]) w := by
  have hp' : tmps[p]?.getD undef = .pointer (some ⟨g, 0, none⟩) := by simpa using hp
  simp [results, h, hp', asAddr, run_loadVar_row w g t ty cs fr d hg hu hd hi]
theorem ret_unh {s : ByteArray} {v : Value} (h : unhV s = v) : Ending.returned v = .returned (unhV s) := by rw [h]
theorem byte1 : (Tryd.prog.info? 5).map (·.size) = some 1 := by kernel_rfl
attribute [local go_sem ↓ high] read_at write_at
set_option maxHeartbeats 1000000 in
set_option maxRecDepth 100000 in
theorem unhash_any (s : ByteArray) (hs : s.size ≤ maxLen) (w : World) :
    Calls Tryd.prog 30 #[.string s] w fun e w' => e = .returned (unhV s) ∧ Below w.heap.size w w' := by
  unfold maxLen at hs
  obtain ⟨Z, hZ⟩ : ∃ Z, Hid (Z = nums .u8 (List.replicate 32 0)) := ⟨_, Lib.hid rfl⟩
  have zZ : Hid (Z.size = 32) := Lib.hid (by rw [hZ.out, nums_size]; simp)
  have oZ : Hid (Z.all (·.oneCell') = true) := Lib.hid (by rw [hZ.out]; exact nums_one _ _)
  obtain ⟨C, hC⟩ : ∃ C, Hid (C = nums .u8 ((textL s).take 32)) := ⟨_, Lib.hid rfl⟩
  have oC : Hid (C.all (·.oneCell') = true) := Lib.hid (by rw [hC.out]; exact nums_one _ _)
  have H0 : Hid (Row (w.alloc (.cells (nums .u8 (List.replicate 32 0)) 24)) w.heap.size 24 (nums .u8 (List.replicate 32 0)) ∧ Below w.heap.size w (w.alloc (.cells (nums .u8 (List.replicate 32 0)) 24))) := Lib.hid ⟨Row.made _ _ _, (Below.refl _ _).alloc (Nat.le_refl _) _⟩
  go_enter Tryd.func30, Tryd.ntmps30
  go_upto_region 0 with fail
  go_cut [2, 3, 4] (fun s2 s3 s4 wx => s2 = .pointer (some ⟨w.heap.size, 0, none⟩) ∧ s3 = .string ⟨#[]⟩ ∧ s4 = .bool false ∧ Hid (Row wx w.heap.size 24 Z ∧ Below w.heap.size w wx))
  case first =>
    go_wp2_with fail
    go_meet
    exact ⟨rfl, rfl, rfl, by rw [hZ.out]; exact H0⟩
  case rest =>
  obtain ⟨rfl, rfl, rfl, HH⟩ := hcut
  clear H0
  have hrow := HH.out.1
  by_cases hlt : s.size < 32
  · have hV := Lib.hid (unhV_no s hlt)
    have hd : decide ((s.size : Int) < 32) = true := decide_eq_true (by omega)
    rw [← hZ.out] at hV
    have h6 : (Tryd.prog.info? 24).map (·.size) = some (nums .u8 (List.replicate 32 0)).size := by kernel_rfl
    have H6 := Lib.hid h6
    have h3 := nums_one .u8 (List.replicate 32 0)
    rw [hZ.out] at hrow hV
    have HB := Lib.hid HH.out.2
    clear h6 HH
    go_wp2_with (refine wpList_store_row rfl 24 _ _ rfl w.heap.size (nums .u8 (List.replicate 32 0)) rfl rfl 24 _ hrow H6.out rfl h3 ?_)
    refine bodyPost_ret (results_row3b (p := 2) (u := 3) (v := 4) rfl _ _ w.heap.size 24 _ (0, 0) _ rfl (hrow.whole _) Tryd.underlying24 rfl H6.out) rfl ⟨ret_unh hV.out, below_setRow HB.out (Nat.le_refl _)⟩
  · have hV := Lib.hid (unhV_yes s hlt)
    have hd : decide ((s.size : Int) < 32) = false := decide_eq_false (by omega)
    rw [← hC.out] at hV
    have h32 : 32 ≤ s.size := by omega
    have zC : Hid (C.size = 32) := Lib.hid (by rw [hC.out, nums_size, List.length_take, textL_length]; omega)
    have HB := Lib.hid HH.out.2
    clear HH
    go_upto_region 3 with fail
    go_cut [2, 4] (fun s2 s4 wx => s2 = .pointer (some ⟨w.heap.size, 0, none⟩) ∧ s4 = .bool false ∧ Hid (Row wx w.heap.size 24 C ∧ Below w.heap.size w wx))
    case first =>
      go_wp2_with (refine wpList_copy_front rfl _ _ _ _ rfl 5 Tryd.underlying41 byte1 w.heap.size 32 32 rfl s rfl Z 24 hrow h32 zZ.out ?_)
      go_meet
      exact ⟨rfl, rfl, Lib.hid ⟨by rw [hC.out]; exact hrow.whole _, below_setRow HB.out (Nat.le_refl _)⟩⟩
    case rest =>
    obtain ⟨rfl, rfl, HQ⟩ := hcut
    clear hrow HB
    have s1 := HQ.out.1.drew.read zC.out
    have s2 := HQ.out.1.drew.write zC.out zC.out oC.out
    go_wp2_with fail
    go_region
    all_goals
      go_wp2
      refine bodyPost_ret (results_row3b (p := 2) (u := 3) (v := 4) rfl _ _ w.heap.size 24 _ (0, 0) _ rfl (HQ.out.1.drew.whole _) Tryd.underlying24 rfl (sizeH _ zC.out)) rfl ⟨ret_unh hV.out, below_setRow HQ.out.2.drew (Nat.le_refl _)⟩
end Go.Proofs.YtllabnhgiojmmaaDoor
