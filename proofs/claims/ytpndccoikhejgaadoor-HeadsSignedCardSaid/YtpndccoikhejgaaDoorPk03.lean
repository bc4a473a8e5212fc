/-
  ShaSum.
-/
import Derived.Test.YtpndccoikhejgaaDoorPk02
import Derived.Deep.RegionHeld3
import Derived.Deep.DeepCutAuto
import Derived.Deep.RegionLaw
import Derived.Lib.BufferWrite
import Derived.Deep.RegionWith
namespace Go.Proofs.YtpndccoikhejgaaDoor
open Go.RowKit
set_option linter.unusedVariables false

theorem bcell {W w1 : World} {B : Nat} (hb : Below B W w1) : (∀ b o, b < B → w1.cell? ⟨b, o, none⟩ = W.cell? ⟨b, o, none⟩) ∧ (∀ b o, b < B → w1.frozen? ⟨b, o, none⟩ = W.frozen? ⟨b, o, none⟩) :=
  ⟨fun b o h => hb.cell (p := ⟨b, o, none⟩) h, fun b o h => hb.frozen (p := ⟨b, o, none⟩) h⟩
def SumHead (w wr : World) : Prop := Row wr w.heap.size 23 (nums .u8 (List.replicate 32 0)) ∧ Below w.heap.size w wr
def SumVar (w wr : World) (g : Nat) (s : Sha.St) : Prop := SumHead w wr ∧ w.heap.size < g ∧ Row wr g 93 s.cells
theorem sumVar1 {w wc wA w2 : World} {a b c d e f g h : Int} (hA : SumHead w wc) (hz : Row wA wc.heap.size 93 (nums .u32 [0, 0, 0, 0, 0, 0, 0, 0])) (hbA : Below wc.heap.size wc wA) (hb : Below wA.heap.size wA w2) :
    SumVar w ((((((((w2.setCell ⟨wc.heap.size, 0, none⟩ (.int .u32 a)).setCell ⟨wc.heap.size, 1, none⟩ (.int .u32 b)).setCell ⟨wc.heap.size, 2, none⟩ (.int .u32 c)).setCell ⟨wc.heap.size, 3, none⟩ (.int .u32 d)).setCell ⟨wc.heap.size, 4, none⟩ (.int .u32 e)).setCell ⟨wc.heap.size, 5, none⟩ (.int .u32 f)).setCell ⟨wc.heap.size, 6, none⟩ (.int .u32 g)).setCell ⟨wc.heap.size, 7, none⟩ (.int .u32 h)) wc.heap.size ⟨a, b, c, d, e, f, g, h⟩ := by
  have hl := hA.1.lt
  have hs := hA.2.size
  have h1 := (hA.1.next hbA).next hb
  have h2 := hz.next hb
  have h3 := below_new (below_new hA.2 hbA) hb
  refine ⟨⟨?_, ?_⟩, hl, ?_⟩
  · exact (((((((h1.far (Nat.ne_of_lt hl) _).far (Nat.ne_of_lt hl) _).far (Nat.ne_of_lt hl) _).far (Nat.ne_of_lt hl) _).far (Nat.ne_of_lt hl) _).far (Nat.ne_of_lt hl) _).far (Nat.ne_of_lt hl) _).far (Nat.ne_of_lt hl) _
  · exact (((((((h3.setCell hs _).setCell hs _).setCell hs _).setCell hs _).setCell hs _).setCell hs _).setCell hs _).setCell hs _
  · exact (((((((h2.numPut 0 a).numPut 1 b).numPut 2 c).numPut 3 d).numPut 4 e).numPut 5 f).numPut 6 g).numPut 7 h
theorem sumVar2 {w wc wA w2 : World} {a b c d e f g h : Int} (hA : SumHead w wc) (hbA : Below wc.heap.size wc wA) (hb : Below wA.heap.size wA w2) :
    SumVar w (w2.alloc (.cells #[.int .u32 a, .int .u32 b, .int .u32 c, .int .u32 d, .int .u32 e, .int .u32 f, .int .u32 g, .int .u32 h] 93)) w2.heap.size ⟨a, b, c, d, e, f, g, h⟩ := by
  have h1 := (hA.1.next hbA).next hb
  have h3 := below_new (below_new hA.2 hbA) hb
  exact ⟨⟨h1.alloc _, h3.alloc h3.size _⟩, h1.lt, Row.made _ _ _⟩
theorem start_cells {w : World} (h : Tab w) : w.cell? ⟨0, 0, none⟩ = some (.int .u32 1779033703) ∧ w.cell? ⟨0, 1, none⟩ = some (.int .u32 3144134277) ∧ w.cell? ⟨0, 2, none⟩ = some (.int .u32 1013904242) ∧ w.cell? ⟨0, 3, none⟩ = some (.int .u32 2773480762) ∧ w.cell? ⟨0, 4, none⟩ = some (.int .u32 1359893119) ∧ w.cell? ⟨0, 5, none⟩ = some (.int .u32 2600822924) ∧ w.cell? ⟨0, 6, none⟩ = some (.int .u32 528734635) ∧ w.cell? ⟨0, 7, none⟩ = some (.int .u32 1541459225) :=
  ⟨h.2 0 (by omega), h.2 1 (by omega), h.2 2 (by omega), h.2 3 (by omega), h.2 4 (by omega), h.2 5 (by omega), h.2 6 (by omega), h.2 7 (by omega)⟩
theorem Hs_ok : Hs.ok := by unfold Hs Sha.St.ok; simp
theorem through_start (b : ByteArray) (n : Nat) (hb : b.size = 64 * n) (hm : b.size ≤ maxLen) (w : World) (hT : Tab w) :
    Calls Tryd.prog 58 #[.agg #[.int .u32 1779033703, .int .u32 3144134277, .int .u32 1013904242, .int .u32 2773480762, .int .u32 1359893119, .int .u32 2600822924, .int .u32 528734635, .int .u32 1541459225], .string b] w fun ev w' => ev = .returned (.agg (Sha.blocks Ks Hs b n).cells) ∧ Below w.heap.size w w' :=
  through_any Hs b n hb hm w hT Hs_ok
theorem eight_cells {w : World} {q : Nat} {t : TypeId} {a b c d e f g h : Int} (H : Row w q t #[.int .u32 a, .int .u32 b, .int .u32 c, .int .u32 d, .int .u32 e, .int .u32 f, .int .u32 g, .int .u32 h]) :
    w.cell? ⟨q, 0, none⟩ = some (.int .u32 a) ∧ w.cell? ⟨q, 1, none⟩ = some (.int .u32 b) ∧ w.cell? ⟨q, 2, none⟩ = some (.int .u32 c) ∧ w.cell? ⟨q, 3, none⟩ = some (.int .u32 d) ∧ w.cell? ⟨q, 4, none⟩ = some (.int .u32 e) ∧ w.cell? ⟨q, 5, none⟩ = some (.int .u32 f) ∧ w.cell? ⟨q, 6, none⟩ = some (.int .u32 g) ∧ w.cell? ⟨q, 7, none⟩ = some (.int .u32 h) :=
  ⟨H.cell 0, H.cell 1, H.cell 2, H.cell 3, H.cell 4, H.cell 5, H.cell 6, H.cell 7⟩
theorem fillS_size (e : ByteArray) (n : Nat) (he : e.size ≤ 63) : ∃ k, (fillS e n).size = 64 * k := by
  unfold fillS
  rw [ByteArray.size_append, ByteArray.size_append, ByteArray.size_append, zerosS_size, put8_size]
  refine ⟨(e.size + 1 + (119 - e.size) % 64 + 8) / 64, ?_⟩
  show e.size + 1 + (119 - e.size) % 64 + 8 = _
  omega
theorem sumStore {w wx w4 : World} {q : Nat} {a b c d e f g h a' b' c' d' e' f' g' h' : Int} (H : SumVar w wx q ⟨a', b', c', d', e', f', g', h'⟩) (hb : Below wx.heap.size wx w4) :
    SumVar w ((((((((w4.setCell ⟨q, 0, none⟩ (.int .u32 a)).setCell ⟨q, 1, none⟩ (.int .u32 b)).setCell ⟨q, 2, none⟩ (.int .u32 c)).setCell ⟨q, 3, none⟩ (.int .u32 d)).setCell ⟨q, 4, none⟩ (.int .u32 e)).setCell ⟨q, 5, none⟩ (.int .u32 f)).setCell ⟨q, 6, none⟩ (.int .u32 g)).setCell ⟨q, 7, none⟩ (.int .u32 h)) q ⟨a, b, c, d, e, f, g, h⟩ := by
  have hl := H.2.1
  have hs := Nat.le_of_lt H.2.1
  have h1 := H.1.1.next hb
  have h2 : Row w4 q 93 (nums .u32 [a', b', c', d', e', f', g', h']) := H.2.2.next hb
  have h3 := below_new H.1.2 hb
  refine ⟨⟨?_, ?_⟩, hl, ?_⟩
  · exact (((((((h1.far (Nat.ne_of_lt hl) _).far (Nat.ne_of_lt hl) _).far (Nat.ne_of_lt hl) _).far (Nat.ne_of_lt hl) _).far (Nat.ne_of_lt hl) _).far (Nat.ne_of_lt hl) _).far (Nat.ne_of_lt hl) _).far (Nat.ne_of_lt hl) _
  · exact (((((((h3.setCell hs _).setCell hs _).setCell hs _).setCell hs _).setCell hs _).setCell hs _).setCell hs _).setCell hs _
  · exact (((((((h2.numPut 0 a).numPut 1 b).numPut 2 c).numPut 3 d).numPut 4 e).numPut 5 f).numPut 6 g).numPut 7 h
/-- The bytes of words, four each. -/
def bytesL : List Int → List Int
  | [] => []
  | n :: l => putL n 4 ++ bytesL l
/-- The hash of a text. -/
def sumL (s : ByteArray) : List Int := bytesL (Sha.blocks Ks (Sha.blocks Ks Hs (s.extract 0 (64 * (s.size / 64))) (s.size / 64)) (fillS (s.extract (64 * (s.size / 64)) s.size) s.size) ((fillS (s.extract (64 * (s.size / 64)) s.size) s.size).size / 64)).list
def outL (B : Sha.St) (k : Nat) : List Int := bytesL (B.list.take k) ++ List.replicate (32 - 4 * k) 0
theorem bytesL_length (l : List Int) : (bytesL l).length = 4 * l.length := by
  induction l with
  | nil => rfl
  | cons n l ih => simp [bytesL, putL_length, ih]; omega
theorem bytesL_snoc (l : List Int) (n : Int) : bytesL (l ++ [n]) = bytesL l ++ putL n 4 := by
  induction l with
  | nil => simp [bytesL]
  | cons m l ih => simp [bytesL, ih]
theorem outL_length (B : Sha.St) (k : Nat) (h : k ≤ 8) : (outL B k).length = 32 := by
  simp [outL, bytesL_length, Sha.St.list]; omega
theorem list8 (B : Sha.St) : B.list.length = 8 := rfl
theorem take_next (B : Sha.St) (k : Nat) (h : k < 8) : B.list.take (k + 1) = B.list.take k ++ [B.list.getD k 0] := by
  have h8 : k < B.list.length := by rw [list8]; exact h
  rw [List.take_succ_eq_append_getElem h8]
  simp [List.getD, List.getElem?_eq_getElem h8]
theorem outL_step (B : Sha.St) (k : Nat) (h : k < 8) : (outL B k).take (4 * k) ++ putL (B.list.getD k 0) 4 ++ (outL B k).drop (4 * k + 4) = outL B (k + 1) := by
  have hl : (bytesL (B.list.take k)).length = 4 * k := by rw [bytesL_length, List.length_take, list8]; omega
  unfold outL
  rw [take_next B k h, bytesL_snoc, List.take_append_of_le_length (by omega), List.take_of_length_le (by omega), List.drop_append, List.drop_eq_nil_of_le (by omega), hl]
  have e : List.drop 4 (List.replicate (32 - 4 * k) (0 : Int)) = List.replicate (32 - 4 * (k + 1)) 0 := by rw [List.drop_replicate]; congr 1
  rw [show 4 * k + 4 - 4 * k = 4 by omega, e]
  simp
theorem list_bd (B : Sha.St) (hB : B.ok) (k : Nat) (h : k < 8) : 0 ≤ B.list.getD k 0 ∧ B.list.getD k 0 < 4294967296 := by
  match k, h with
  | 0, _ => exact hB.1
  | 1, _ => exact hB.2.1
  | 2, _ => exact hB.2.2.1
  | 3, _ => exact hB.2.2.2.1
  | 4, _ => exact hB.2.2.2.2.1
  | 5, _ => exact hB.2.2.2.2.2.1
  | 6, _ => exact hB.2.2.2.2.2.2.1
  | 7, _ => exact hB.2.2.2.2.2.2.2
theorem putL_byte (n : Int) (k : Nat) : ∀ x ∈ putL n k, 0 ≤ x ∧ x < 256 := by
  induction k with
  | zero => intro x hx; cases hx
  | succ k ih =>
    intro x hx
    simp only [putL, List.mem_cons] at hx
    rcases hx with rfl | hx
    · omega
    · exact ih x hx
theorem cells_of_nums (l : List Int) (h : ∀ x ∈ l, 0 ≤ x ∧ x < 256) : Lib.byteCells (strOfNums l).data.toList = l.map (Value.int .u8) := by
  unfold strOfNums Lib.byteCells
  simp only [List.map_map]
  apply List.map_congr_left
  intro x hx
  have := h x hx
  simp
  omega
theorem cells_put (n : Int) : Lib.byteCells (putS n 4).data.toList = (putL n 4).map (Value.int .u8) := by
  rw [putS_some n 4 (by omega)]
  exact cells_of_nums _ (putL_byte n 4)
theorem put4_size (n : Int) : (putS n 4).size = 4 := by rw [putS_some n 4 (by omega), strOfNums_size, putL_length]; rfl
theorem sizeU8 : (Tryd.prog.info? 5).map (·.size) = some 1 := by kernel_rfl
theorem size32 (l : List Int) (h : l.length = 32) : (Tryd.prog.info? 23).map (·.size) = some (nums .u8 l).size := by rw [nums_size, h]; kernel_rfl
/-- What is copied out of a text into a block, as one step of a region. -/
theorem step_copy_text {P : Program} {ops : Array Oper} {o : Oper} {a : Act} {w : World} {K : Act → World → Prop} {Q : Exit → Act → World → Prop} {E : Prop} (hgd : o.guard = none) (d x : Operand) (dT sT : TypeId)
    (ho : o.op = .call { callee := .builtin .copy, args := #[d, x], argTypes := #[dT, sT] }) (elem : TypeId) (hu : P.underlying dT = some (.slice elem)) (hs : (P.info? elem).map (·.size) = some 1)
    (g off dLen dCap : Nat) (hd : a.eval d = .slice (some ⟨g, off, none⟩) dLen dCap) (s : ByteArray) (hx : a.eval x = .string s) (cur : Array Value) (t : TypeId) (hg : Row w g t cur) (hle : s.size ≤ dLen) (hfit : off + s.size ≤ cur.size)
    (hK : K (a.put o.dst (goInt s.size)) (w.setRow g (cur.toList.take off ++ Lib.byteCells s.data.toList ++ cur.toList.drop (off + s.size)).toArray)) : if Region.wanted o (yielded ops a.tmps) = true then Oper.wp P o a w K Q else E := by
  have hw : Region.wanted o (yielded ops a.tmps) = true := by simp [Region.wanted, hgd]
  rw [if_pos hw]
  have hrun := Lib.run_copy_row_string (P := P) w dT sT o.type elem g off dLen dCap s cur t hu hs hg hle hfit
  unfold Oper.wp
  simp [execOp, ho, resolve, invoke, builtin, hd, hx, hrun, Result.andThen]
  have hK2 := hK
  simp only [List.append_assoc] at hK2
  exact hK2
def OutHead (w wr : World) (r : Nat) (l : List Int) : Prop :=
  Row wr r 23 (nums .u8 l) ∧ Row wr w.heap.size 23 (nums .u8 (List.replicate 32 0)) ∧ w.heap.size < r ∧ Below w.heap.size w wr
theorem OutHead.start {w wc : World} {q : Nat} {B : Sha.St} (H : SumVar w wc q B) : OutHead w (wc.alloc (.cells (nums .u8 (List.replicate 32 0)) 23)) wc.heap.size (outL B 0) :=
  ⟨Row.made _ _ _, H.1.1.alloc _, H.1.1.lt, H.1.2.alloc H.1.2.size _⟩
theorem OutHead.next {w wr w5 : World} {r k : Nat} {B : Sha.St} (H : OutHead w wr r (outL B k)) (hk : k < 8) (hb : Below wr.heap.size wr w5) :
    OutHead w (w5.setRow r ((nums .u8 (outL B k)).toList.take (4 * k) ++ Lib.byteCells (putS (B.list.getD k 0) 4).data.toList ++ (nums .u8 (outL B k)).toList.drop (4 * k + (putS (B.list.getD k 0) 4).size)).toArray) r (outL B (k + 1)) := by
  have e : ((nums .u8 (outL B k)).toList.take (4 * k) ++ Lib.byteCells (putS (B.list.getD k 0) 4).data.toList ++ (nums .u8 (outL B k)).toList.drop (4 * k + (putS (B.list.getD k 0) 4).size)).toArray = nums .u8 (outL B (k + 1)) := by
    rw [cells_put, put4_size, ← outL_step B k hk]
    simp [nums, List.map_append, List.map_take, List.map_drop]
  rw [e]
  exact ⟨(H.1.next hb).whole _, (H.2.1.next hb).wfar (by have := H.2.2.1; omega) _, H.2.2.1, below_setRow (below_new H.2.2.2 hb) (by have := H.2.2.1; omega)⟩
set_option maxHeartbeats 4000000 in
set_option maxRecDepth 100000 in
theorem sum_any (s : ByteArray) (hs : s.size ≤ 1152921504606846976) (w : World) (hT : Tab w) :
    Calls Tryd.prog 36 #[.string s] w fun ev w' => ev = .returned (.agg (nums .u8 (sumL s))) ∧ Below w.heap.size w w' := by
  have HT := Lib.hid hT
  have hT1 : 1 < w.heap.size := block_lt_of_cell (hT.1 0 (by omega))
  obtain ⟨n, m, hn, hm⟩ : ∃ n m : Nat, s.size = 64 * n + m ∧ m < 64 := ⟨s.size / 64, s.size % 64, by omega, by omega⟩
  have e1 : (s.size : Int) % 64 = (m : Int) := by omega
  obtain ⟨N, hN⟩ : ∃ N, N = 64 * n := ⟨_, rfl⟩
  have e2 : (s.size : Int) - (m : Int) = (N : Int) := by omega
  have e3 : (0 : Int) ≤ (N : Int) := by omega
  have e4 : (N : Int) ≤ (s.size : Int) := by omega
  have HN := Lib.hid hn
  have HM := Lib.hid hN
  have hn1 : N ≤ s.size := by omega
  clear hn
  clear hN
  clear hT
  have hx1 : Hid ((s.extract 0 N).size = 64 * n) := Lib.hid (by have := HM.out; rw [ByteArray.size_extract]; omega)
  have hx2 : (s.extract 0 N).size ≤ maxLen := by rw [ByteArray.size_extract]; unfold maxLen; omega
  obtain ⟨A, hA⟩ : ∃ st, Hid (st = Sha.blocks Ks Hs (s.extract 0 N) n) := ⟨_, Lib.hid rfl⟩
  have c1 : ∀ W, Tab W → Calls Tryd.prog 58 #[.agg #[.int .u32 1779033703, .int .u32 3144134277, .int .u32 1013904242, .int .u32 2773480762, .int .u32 1359893119, .int .u32 2600822924, .int .u32 528734635, .int .u32 1541459225], .string (s.extract 0 N)] W fun ev w' => ev = .returned (.agg A.cells) ∧ Below W.heap.size W w' := fun W h => by
    rw [hA.out]; exact through_start _ n hx1.out hx2 W h
  obtain ⟨a, b, c, d, e, f, g, h⟩ := A
  have C1 := Lib.hid c1
  clear c1
  unfold Sha.St.cells at C1
  obtain ⟨F, hF⟩ : ∃ F, Hid (F = fillS (s.extract N s.size) s.size) := ⟨_, Lib.hid rfl⟩
  have hes : (s.extract N s.size).size ≤ 63 := by have := HM.out; have := HN.out; rw [ByteArray.size_extract]; omega
  have C2 : Hid (∀ W, Calls Tryd.prog 59 #[.string (s.extract N s.size), .int .i64 s.size] W fun ev w' => ev = .returned (.string F) ∧ Below W.heap.size W w') := Lib.hid fun W => by
    rw [hF.out]; exact filled_any _ _ hes hs W
  obtain ⟨kF, hk⟩ := fillS_size (s.extract N s.size) s.size hes
  rw [← hF.out] at hk
  obtain ⟨B, hB⟩ : ∃ st, Hid (st = Sha.blocks Ks ⟨a, b, c, d, e, f, g, h⟩ F kF) := ⟨_, Lib.hid rfl⟩
  have hok : Sha.St.ok ⟨a, b, c, d, e, f, g, h⟩ := by rw [hA.out]; exact Sha.blocks_ok _ _ _ Hs_ok _
  have c3 : ∀ W, Tab W → Calls Tryd.prog 58 #[.agg (Sha.St.cells ⟨a, b, c, d, e, f, g, h⟩), .string F] W fun ev w' => ev = .returned (.agg B.cells) ∧ Below W.heap.size W w' := fun W hW => by
    rw [hB.out]; exact through_any _ F kF hk (by rw [hF.out]; unfold fillS maxLen; rw [ByteArray.size_append, ByteArray.size_append, ByteArray.size_append, zerosS_size, put8_size]; show _ + 1 + _ + 8 ≤ _; omega) W hW hok
  have hBok0 : Hid B.ok := Lib.hid (by rw [hB.out]; exact Sha.blocks_ok Ks _ F hok kF)
  obtain ⟨a', b', c', d', e', f', g', h'⟩ := B
  have C3 := Lib.hid c3
  unfold Sha.St.cells at C3
  have HKF := Lib.hid hk
  clear c3 hk hok hes
  have hg : 1 < w.heap.size := hT1
  have hg0 : 0 < w.heap.size := by omega
  have H0 : Hid (SumHead w (w.alloc (.cells (nums .u8 (List.replicate 32 0)) 23))) := Lib.hid ⟨Row.made _ _ _, (Below.refl _ _).alloc (Nat.le_refl _) _⟩
  go_enter Tryd.func36, Tryd.ntmps36
  go_upto_region 1 with fail
  go_cut [3] (fun s3 wx => s3 = .int .i64 N ∧ Hid (SumHead w wx))
  case first =>
    go_wp2_with fail
    go_meet
    exact ⟨rfl, H0⟩
  case rest =>
  obtain ⟨rfl, HW⟩ := hcut
  rename_i wc
  clear H0
  have hwc : 0 < wc.heap.size := by have := HW.out.2.size; omega
  have HTc := Lib.hid (HT.out.next HW.out.2)
  obtain ⟨j0, j1, j2, j3, j4, j5, j6, j7⟩ := start_cells HTc.out
  have ne0 := World.new_ne wc _ j0
  go_upto_region 2 with fail
  go_cut [4] (fun s4 wx => ∃ q, s4 = .pointer (some ⟨q, 0, none⟩) ∧ Hid (SumVar w wx q ⟨a, b, c, d, e, f, g, h⟩))
  case first =>
    go_region_held3 (fun w' => w'.cell? ⟨0, 0, none⟩ = some (.int .u32 1779033703) ∧ w'.cell? ⟨0, 1, none⟩ = some (.int .u32 3144134277) ∧ w'.cell? ⟨0, 2, none⟩ = some (.int .u32 1013904242) ∧ w'.cell? ⟨0, 3, none⟩ = some (.int .u32 2773480762) ∧ w'.cell? ⟨0, 4, none⟩ = some (.int .u32 1359893119) ∧ w'.cell? ⟨0, 5, none⟩ = some (.int .u32 2600822924) ∧ w'.cell? ⟨0, 6, none⟩ = some (.int .u32 528734635) ∧ w'.cell? ⟨0, 7, none⟩ = some (.int .u32 1541459225)) (go_keep) (first
      | (go_at_call 58; (with_reducible refine (C1.out _ ?hTab).mono ?_); (case hTab => exact HTc.out.next (by repeat (first | exact Below.refl _ _ | apply Below.drew | refine Below.alloc ?_ (by simp) _))); rintro e w2 ⟨rfl, hb2⟩; obtain ⟨a0, a1, a2, a3, a4, a5, a6, a7⟩ := start_cells (HTc.out.next (below_new (by repeat (first | exact Below.refl _ _ | apply Below.drew | refine Below.alloc ?_ (by simp) _)) hb2)); obtain ⟨hc2, hf2⟩ := bcell hb2))
    all_goals (clear hc2 hf2; go_wp2_with fail; go_meet)
    all_goals (refine ⟨_, rfl, Lib.hid ?_⟩)
    all_goals first
      | (with_reducible refine sumVar1 HW.out ?_ ?_ hb2
         · exact Row.made _ _ _
         · exact Below.drew ((Below.refl _ _).alloc (Nat.le_refl _) _))
      | (with_reducible refine sumVar2 HW.out ?_ hb2
         exact Below.drew (Below.refl _ _))
  case rest =>
    obtain ⟨q, rfl, HV⟩ := hcut
    clear C1 j0 j1 j2 j3 j4 j5 j6 j7
    go_upto_region 3 with fail
    obtain ⟨c0, c1, c2, c3, c4, c5, c6, c7⟩ := eight_cells HV.out.2.2
    have hfr := fun i => HV.out.2.2.free i
    have hq : q < wc.heap.size := HV.out.2.2.lt
    have HTx := Lib.hid (HT.out.next HV.out.1.2)
    go_cut [] (fun wy => Hid (SumVar w wy q ⟨a', b', c', d', e', f', g', h'⟩))
    case first =>
      go_region_with (first
        | (go_at_call 59; (with_reducible refine (C2.out _).mono ?_); rintro e w3 ⟨rfl, hb3⟩; have hw3 := below_new (Below.drew (Below.refl wc.heap.size wc)) hb3; obtain ⟨x0, x1, x2, x3, x4, x5, x6, x7⟩ := eight_cells (HV.out.2.2.next hw3); have hfx := fun i => (HV.out.2.2.next hw3).free i)
        | (go_at_call 58; (with_reducible refine (C3.out _ ?hTab).mono ?_); (case hTab => exact HTx.out.next hw3); rintro e w4 ⟨rfl, hb4⟩; have hw4 := below_new hw3 hb4; obtain ⟨y0, y1, y2, y3, y4, y5, y6, y7⟩ := eight_cells (HV.out.2.2.next hw4); have hfy := fun i => (HV.out.2.2.next hw4).free i))
      all_goals (go_wp2_with fail; go_meet)
      all_goals exact Lib.hid (sumStore HV.out hw4)
    case rest =>
      have HV2 := hcut
      clear hcut
      obtain ⟨B, hBB⟩ : ∃ B, Hid (B = Sha.St.mk a' b' c' d' e' f' g' h') := ⟨_, Lib.hid rfl⟩
      rw [← hBB.out] at HV2
      have hBok : Hid B.ok := Lib.hid (by rw [hBB.out]; exact hBok0.out)
      have hrow : Row wc q 93 B.cells := HV2.out.2.2
      have H5 := Lib.hid (OutHead.start HV2.out)
      go_wp2_with (refine wpList_load_row rfl 93 _ rfl q rfl 93 _ (0, 0) _ (hrow.alloc _) Tryd.underlying93 rfl size8 ?_)
      have hcr : w.heap.size < wc.heap.size := HV2.out.1.1.lt
      obtain ⟨r, hr⟩ : ∃ r, Hid (r = wc.heap.size) := ⟨_, Lib.hid rfl⟩
      go_loopw [6, 7, 28] (fun _ _ i wr => ∃ k : Nat, k ≤ 8 ∧ i = .int .i64 k ∧ Hid (OutHead w wr wc.heap.size (outL B k))) (fun _ _ i _ => (8 - intOf i).toNat)
      case atStart => exact ⟨0, by omega, rfl, H5⟩
      case round =>
        clear H5 hrow
        obtain ⟨k, hk, rfl, HK⟩ := hrel
        by_cases hk8 : k < 8
        · obtain ⟨y, hy⟩ : ∃ y, Hid (y = B.list.getD k 0) := ⟨_, Lib.hid rfl⟩
          have hby := list_bd B hBok.out k hk8
          rw [← hy.out] at hby
          have hi := fun w => index8 B k hk8 w
          rw [← hy.out] at hi
          have g1 : 4 * (k : Int) ≤ 32 := by omega
          have g2 : (0 : Int) ≤ 4 * (k : Int) := by omega
          have g3 : ¬ (32 = 4 * k) := by omega
          have wr1 : IntKind.i64.wrap (4 * (k : Int)) = 4 * (k : Int) := by rw [IntKind.wrap_i64]; omega
          have wr2 : IntKind.u64.wrap y = y := by rw [IntKind.wrap_u64]; omega
          have wr3 : (4 * (k : Int)).toNat = 4 * k := by omega
          go_wp2_with fail
          go_region_law (first
            | (refine step_copy_text rfl _ _ _ _ rfl 5 Tryd.underlying48 sizeU8 wc.heap.size (4 * k) (32 - 4 * k) (32 - 4 * k) rfl (putS y 4) rfl _ 23 (HK.out.1.drew.next hb5) ?hle ?hfit ?_; (case hle => rw [put4_size]; omega); (case hfit => rw [put4_size, nums_size, outL_length _ _ hk]; omega))
            | (go_simp; go_at_call 37; (with_reducible refine (put_any y 4 _ (by omega)).mono ?_); rintro e w5 ⟨rfl, hb5⟩))
          all_goals (go_wp2; go_roundw)
          case rel => exact ⟨k + 1, by omega, by go_num, Lib.hid (by have h := HK.out.next hk8 (below_new (Below.drew (Below.refl _ _)) hb5); rw [← hy.out, List.append_assoc] at h; exact h)⟩
          case measure => simp [intOf]; omega
        · have hk9 : Hid (k = 8) := Lib.hid (by omega)
          have h1 := HK.out.1
          have h2 := HK.out.2.1
          have h4 : Hid ((nums .u8 (outL B k)).size = 32) := Lib.hid (by rw [nums_size, outL_length _ _ hk])
          have h5 : Hid ((nums .u8 (List.replicate 32 0)).size = (nums .u8 (outL B k)).size) := Lib.hid (by rw [h4.out, nums_size]; simp)
          have h3 := nums_one .u8 (outL B k)
          have h6 := size32 (outL B k) (outL_length _ _ hk)
          go_wp2_with (first
            | (refine wpList_load_row rfl 23 _ rfl wc.heap.size rfl 23 _ (0, 0) _ h1 Tryd.underlying23 rfl h6 ?_)
            | (refine wpList_store_row rfl 23 _ _ rfl w.heap.size _ rfl rfl 23 _ h2 h6 h5.out h3 ?_))
          refine bodyPost_ret (results_cell_row rfl _ _ w.heap.size 23 _ (0, 0) _ rfl (h2.whole _) Tryd.underlying23 rfl h6) rfl ⟨?_, below_setRow HK.out.2.2.2 (Nat.le_refl _)⟩
          rw [hk9.out]
          have e : outL B 8 = sumL s := by
            have q1 : s.size / 64 = n := by have := HN.out; omega
            have q2 : 64 * n = N := HM.out.symm
            have q3 : F.size / 64 = kF := by rw [HKF.out]; omega
            unfold sumL
            rw [q1, q2, ← hF.out, q3, ← hA.out, ← hB.out, ← hBB.out]
            show bytesL B.list ++ [] = _
            rw [List.append_nil]
          rw [e]
end Go.Proofs.YtpndccoikhejgaaDoor
