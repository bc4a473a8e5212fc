/-
  Several texts in one (a claim has room for 60 files): Seal, HeadCells, HeadBuilt, RefPad, RefSumMath, RefTurn.
-/
import Derived.Test.YtpndccoikhejgaaDoorPk04
import Derived.Test.YtpndccoikhejgaaDoorPk07
import Derived.Stop.BytesEq
import Derived.Laws.StructEq
import Derived.Deep.MidRow
import Derived.Test.YtpndccoikhejgaaDoorPk00
import Derived.Test.YtpndccoikhejgaaDoorPk05
import Derived.Test.YtpndccoikhejgaaDoorPk03
namespace Go.Proofs.YtpndccoikhejgaaDoor
open Go.RowKit Go.Great
set_option linter.unusedVariables false
set_option maxRecDepth 100000

/-- A seal's cells. -/
def sealV (i : Int) (s : ByteArray) (A : Option Addr) (n c : Nat) : Array Value := #[.int .i64 i, .string s, .slice A n c]
theorem sealV_size (i : Int) (s : ByteArray) (A : Option Addr) (n c : Nat) : (sealV i s A n c).size = 3 := rfl
theorem sealV_one (i : Int) (s : ByteArray) (A : Option Addr) (n c : Nat) : (sealV i s A n c).all (·.oneCell') = true := by simp [sealV, Value.oneCell']
theorem sizeS (n : Nat) (h : n = 3) : (Tryd.prog.info? 32).map (·.size) = some n := by rw [h]; kernel_rfl
def readS (p : Value) : Sem Value := Instr.loadAt 32 p
theorem read_s (p : Value) : Instr.loadAt 32 p = readS p := rfl
theorem Row.readS {w : World} {g : Nat} {t : TypeId} {C : Array Value} (h : Row w g t C) (hn : C.size = 3) : (readS (.pointer (some ⟨g, 0, none⟩))).run Tryd.prog w = .ok (.agg C) w := by
  unfold Go.Proofs.YtpndccoikhejgaaDoor.readS
  simp only [Instr.loadAt, Instr.sureAddr, Sem.run_bind, Sem.run_pure, Result.andThen_ok, run_loadVar_row w g t 32 C (0, 0) _ h Tryd.underlying32 rfl (sizeS _ hn)]
def writeS (p v : Value) : Sem Unit := Instr.storeAt 32 p v
theorem write_s (p v : Value) : Instr.storeAt 32 p v = writeS p v := rfl
theorem Row.writeS {w : World} {g : Nat} {t : TypeId} {C D : Array Value} (h : Row w g t C) (hn : C.size = 3) (hd : D.size = 3) (h1 : D.all (·.oneCell') = true) : (writeS (.pointer (some ⟨g, 0, none⟩)) (.agg D)).run Tryd.prog w = .ok () (w.setRow g D) := by
  unfold Go.Proofs.YtpndccoikhejgaaDoor.writeS
  simp only [Instr.storeAt, Instr.sureAddr, Sem.run_bind, Sem.run_pure, Result.andThen_ok, run_storeVar_row w g t 32 C D h (sizeS _ hd) (by rw [hn, hd]) h1]
theorem get_loadS {o : Oper} {a : Act} {x : Operand} {p : Option Addr} {v : Value} {w : World} (ho : o.op = .load 32 x) (hx : a.eval x = .pointer p) (h : (readS (.pointer p)).run Tryd.prog w = .ok v w) : (execOp a.eval o).run Tryd.prog w = .ok (.value v) w := by
  unfold execOp
  simp only [ho, hx, read_s, Sem.run_bind, Sem.run_pure, h, Result.andThen_ok]
/-- A seal into a block that is made for it. -/
theorem made_seal (w1 : World) (L : Array Value) (hL : L.size = 3) (oL : L.all (·.oneCell') = true) : ∃ w2, (writeS (.pointer (some ⟨w1.heap.size, 0, none⟩)) (.agg L)).run Tryd.prog (w1.alloc (.cells #[.int .i64 0, .string ⟨#[]⟩, .slice none 0 0] 32)) = .ok () w2 ∧ Row w2 w1.heap.size 32 L ∧ Below w1.heap.size w1 w2 := by
  refine ⟨(w1.alloc (.cells (sealV 0 ⟨#[]⟩ none 0 0) 32)).setRow w1.heap.size L, ?_, (Row.made _ _ _).whole _, below_setRow ((Below.refl _ _).alloc (Nat.le_refl _) _) (Nat.le_refl _)⟩
  exact (Row.made w1 32 (sealV 0 ⟨#[]⟩ none 0 0)).writeS rfl hL oL
theorem seal_cells {w : World} {g : Nat} {t : TypeId} {i : Int} {s : ByteArray} {A : Option Addr} {n c : Nat} (h : Row w g t (sealV i s A n c)) : w.cell? ⟨g, 0, none⟩ = some (.int .i64 i) ∧ w.cell? ⟨g, 1, none⟩ = some (.string s) ∧ w.cell? ⟨g, 2, none⟩ = some (.slice A n c) := ⟨h.cell 0, h.cell 1, h.cell 2⟩
theorem text_of_list {s t : ByteArray} (h : s.toList = t.toList) : s = t := by
  rw [ByteArray.toList_eq, ByteArray.toList_eq] at h
  exact Go.WideShapes.bytes_inj h
/-- What functions that hand a seal back, and an error, do. -/
def GivesS (w : World) (r : (Int × ByteArray × List (List Int)) × Int) (e : Ending) (w' : World) : Prop :=
  ∃ A c, e = .returned (.tuple #[.agg (sealV r.1.1 r.1.2.1 A r.1.2.2.length c), .int .i64 r.2]) ∧ r.1.2.2.length ≤ c ∧ c ≤ maxLen ∧ HL w' w'.heap.size A r.1.2.2 ∧ Below w.heap.size w w'
/-- Two seals in blocks of the call's own. -/
def TwoS (w wr : World) (C D : Array Value) : Prop := Row wr w.heap.size 32 C ∧ Row wr (w.heap.size + 1) 32 D ∧ Below w.heap.size w wr
theorem TwoS.start (w : World) (C D : Array Value) : TwoS w ((w.alloc (.cells C 32)).alloc (.cells D 32)) C D :=
  ⟨(Row.made _ _ _).alloc _, Row.made2 _ _ _ _, ((Below.refl _ _).alloc (Nat.le_refl _) _).alloc (by simp) _⟩
set_option maxHeartbeats 2000000 in
theorem sealSame_any (i j : Int) (s t : ByteArray) (ls ms : List (List Int)) (hl : hashes ls) (hm : hashes ms) (h63 : ls.length ≤ 9223372036854775807) (h64 : ms.length ≤ 9223372036854775807) (A B : Option Addr) (c d : Nat) (w : World) (hA : HW w A ls) (hB : HW w B ms) :
    Calls Tryd.prog 49 #[.agg (sealV i s A ls.length c), .agg (sealV j t B ms.length d)] w fun e w' => e = .returned (.bool (decide (i = j ∧ s = t ∧ ls = ms))) ∧ Below w.heap.size w w' := by
  obtain ⟨n, hn⟩ : ∃ n, Hid (n = ls.length) := ⟨_, Lib.hid rfl⟩
  obtain ⟨m, hmm⟩ : ∃ m, Hid (m = ms.length) := ⟨_, Lib.hid rfl⟩
  obtain ⟨b, hb⟩ : ∃ b, Hid (b = decide (ls = ms)) := ⟨_, Lib.hid rfl⟩
  have X1 : Hid (∀ W, Below w.heap.size w W → Calls Tryd.prog 70 #[.slice A n c, .slice B m d] W fun e w' => e = .returned (.bool b) ∧ Below W.heap.size W w') := Lib.hid fun W hW => by
    rw [hn.out, hmm.out, hb.out]
    refine (lsame_any ls ms hl hm h63 h64 A B c d W (hA.next hW) (hB.next hW)).mono ?_
    rintro e w' ⟨h1, k, rfl⟩
    exact ⟨h1, below_drewN (Below.refl _ _) k⟩
  have H0 : Hid (TwoS w ((w.alloc (.cells (sealV i s A n c) 32)).alloc (.cells (sealV j t B m d) 32)) (sealV i s A n c) (sealV j t B m d)) := Lib.hid (TwoS.start _ _ _)
  rw [← hn.out, ← hmm.out]
  clear hA hB hl hm h63 h64 hn hmm
  by_cases h1 : i = j
  · have d1 : (i == j) = true := by simpa using h1
    by_cases h2 : s = t
    · have d3 : s.toList = t.toList := by rw [h2]
      have d2 : (s.toList == t.toList) = true := by rw [d3]; exact beq_self_eq_true _
      have HD : Hid (decide (i = j ∧ s = t ∧ ls = ms) = b) := Lib.hid (by rw [hb.out]; simp [h1, h2])
      rw [HD.out]
      clear h1 h2 hb
      go_enter Tryd.func49, Tryd.ntmps49
      go_upto_region 1 with fail
      refine world_gen (fun X => TwoS w X (sealV i s A n c) (sealV j t B m d)) H0.out (fun X HX => ?_)
      have HX := Lib.hid HX
      obtain ⟨c0, c1, c2⟩ := seal_cells HX.out.1
      obtain ⟨e0, e1, e2⟩ := seal_cells HX.out.2.1
      have hq := HX.out.2.2
      go_wp2_with (go_at_call 70; (with_reducible refine (X1.out _ hq).mono ?_); rintro e w1 ⟨rfl, hb1⟩; have HB := Lib.hid (below_new hq hb1); clear hb1)
      go_ret
      exact ⟨rfl, HB.out⟩
    · have d3 : ¬ s.toList = t.toList := fun h => h2 (text_of_list h)
      have d2 : (s.toList == t.toList) = false := by simpa using d3
      have HD : Hid (decide (i = j ∧ s = t ∧ ls = ms) = false) := Lib.hid (by simp [h2])
      rw [HD.out]
      clear h1 h2 hb
      go_enter Tryd.func49, Tryd.ntmps49
      go_upto_region 1 with fail
      refine world_gen (fun X => TwoS w X (sealV i s A n c) (sealV j t B m d)) H0.out (fun X HX => ?_)
      have HX := Lib.hid HX
      obtain ⟨c0, c1, c2⟩ := seal_cells HX.out.1
      obtain ⟨e0, e1, e2⟩ := seal_cells HX.out.2.1
      go_wp2
      go_ret
      exact ⟨rfl, HX.out.2.2⟩
  · have d1 : (i == j) = false := by simpa using h1
    have HD : Hid (decide (i = j ∧ s = t ∧ ls = ms) = false) := Lib.hid (by simp [h1])
    rw [HD.out]
    clear h1 hb
    go_enter Tryd.func49, Tryd.ntmps49
    go_upto_region 1 with fail
    refine world_gen (fun X => TwoS w X (sealV i s A n c) (sealV j t B m d)) H0.out (fun X HX => ?_)
    have HX := Lib.hid HX
    obtain ⟨c0, c1, c2⟩ := seal_cells HX.out.1
    obtain ⟨e0, e1, e2⟩ := seal_cells HX.out.2.1
    go_wp2
    go_ret
    exact ⟨rfl, HX.out.2.2⟩
end Go.Proofs.YtpndccoikhejgaaDoor
namespace Go.Proofs.YtpndccoikhejgaaDoor
open Go.RowKit Go.Great
set_option linter.unusedVariables false
set_option maxRecDepth 100000

/-- A head's cells; a signed head's. -/
def headV (s : Int) (r : List Int) : Array Value := #[Value.int .i64 s] ++ nums .u8 r
def signedV (s : Int) (r : List Int) (i : Int) (t : ByteArray) (A : Option Addr) (n c : Nat) : Array Value := headV s r ++ sealV i t A n c
theorem headV_size (s : Int) (r : List Int) (h : r.length = 32) : (headV s r).size = 33 := by simp [headV, nums_size, h]
theorem headV_one (s : Int) (r : List Int) : (headV s r).all (·.oneCell') = true := by
  rw [headV, Array.all_append, nums_one]
  simp [Value.oneCell']
theorem signedV_size (s : Int) (r : List Int) (i : Int) (t : ByteArray) (A : Option Addr) (n c : Nat) (h : r.length = 32) : (signedV s r i t A n c).size = 36 := by
  rw [signedV, Array.size_append, headV_size s r h]; rfl
theorem signedV_one (s : Int) (r : List Int) (i : Int) (t : ByteArray) (A : Option Addr) (n c : Nat) : (signedV s r i t A n c).all (·.oneCell') = true := by
  rw [signedV, Array.all_append, headV_one, sealV_one]; rfl
theorem headV_get0 (s : Int) (r : List Int) : (headV s r)[0]? = some (.int .i64 s) := by
  unfold headV; rw [Array.getElem?_append_left (by simp)]; rfl
theorem headV_get (s : Int) (r : List Int) (h : r.length = 32) (j : Nat) (hj : j < 32) : (headV s r)[1 + j]? = some (.int .u8 (r.getD j 0)) := by
  unfold headV
  rw [Array.getElem?_append_right (by simp), show 1 + j - (#[Value.int .i64 s] : Array Value).size = j by simp, nums_get .u8 r j (by omega)]
theorem signedV_low (s : Int) (r : List Int) (i : Int) (t : ByteArray) (A : Option Addr) (n c : Nat) (h : r.length = 32) (j : Nat) (hj : j < 33) : (signedV s r i t A n c)[j]? = (headV s r)[j]? := by
  unfold signedV; rw [Array.getElem?_append_left (by rw [headV_size s r h]; exact hj)]
theorem signedV_high (s : Int) (r : List Int) (i : Int) (t : ByteArray) (A : Option Addr) (n c : Nat) (h : r.length = 32) (j : Nat) : (signedV s r i t A n c)[33 + j]? = (sealV i t A n c)[j]? := by
  unfold signedV
  rw [Array.getElem?_append_right (by rw [headV_size s r h]; omega), headV_size s r h, show 33 + j - 33 = j by omega]
theorem sizeD (n : Nat) (h : n = 33) : (Tryd.prog.info? 25).map (·.size) = some n := by rw [h]; kernel_rfl
theorem sizeG (n : Nat) (h : n = 36) : (Tryd.prog.info? 34).map (·.size) = some n := by rw [h]; kernel_rfl
def readD (p : Value) : Sem Value := Instr.loadAt 25 p
theorem read_d (p : Value) : Instr.loadAt 25 p = readD p := rfl
def readG (p : Value) : Sem Value := Instr.loadAt 34 p
theorem read_g (p : Value) : Instr.loadAt 34 p = readG p := rfl
def writeG (p v : Value) : Sem Unit := Instr.storeAt 34 p v
theorem write_g (p v : Value) : Instr.storeAt 34 p v = writeG p v := rfl
section
variable {w : World} {g : Nat} {t : TypeId} {s : Int} {r : List Int} {i : Int} {u : ByteArray} {A : Option Addr} {n c : Nat}
theorem Row.rangeAt {C : Array Value} (h : Row w g t C) (o : Nat) (cs : List Value) (hc : ∀ j v, cs[j]? = some v → C[o + j]? = some v) : w.rangeAt g o cs := fun j v hv => by
  rw [h.cell (o + j)]; exact hc j v hv
theorem head_cells (h : Row w g t (headV s r)) : w.cell? ⟨g, 0, none⟩ = some (.int .i64 s) := (h.cell 0).trans (headV_get0 s r)
theorem head_root (h : Row w g t (headV s r)) (hr : r.length = 32) : (readAt (.pointer (some ⟨g, 1, none⟩))).run Tryd.prog w = .ok (.agg (nums .u8 r)) w :=
  read_flat w ⟨g, 1, none⟩ r hr fun j hj => by rw [Addr.add_mid, h.cell]; exact headV_get s r hr j hj
theorem head_all (h : Row w g t (headV s r)) (hr : r.length = 32) : (readD (.pointer (some ⟨g, 0, none⟩))).run Tryd.prog w = .ok (.agg (headV s r)) w := by
  have e := run_loadAt_mid (P := Tryd.prog) w g 0 25 (headV s r).toList _ (h.rangeAt 0 _ (fun j v hv => by rw [Nat.zero_add, ← Array.getElem?_toList]; exact hv)) Tryd.underlying25 rfl (sizeD _ (by rw [Array.length_toList]; exact headV_size s r hr))
  rw [Array.toArray_toList] at e
  exact e
theorem signed_cells (h : Row w g t (signedV s r i u A n c)) (hr : r.length = 32) : w.cell? ⟨g, 0, none⟩ = some (.int .i64 s) ∧ w.cell? ⟨g, 33, none⟩ = some (.int .i64 i) ∧ w.cell? ⟨g, 34, none⟩ = some (.string u) ∧ w.cell? ⟨g, 35, none⟩ = some (.slice A n c) :=
  ⟨by rw [h.cell, signedV_low s r i u A n c hr 0 (by decide)]; exact headV_get0 s r, (h.cell 33).trans (signedV_high s r i u A n c hr 0), (h.cell 34).trans (signedV_high s r i u A n c hr 1), (h.cell 35).trans (signedV_high s r i u A n c hr 2)⟩
theorem signed_root (h : Row w g t (signedV s r i u A n c)) (hr : r.length = 32) : (readAt (.pointer (some ⟨g, 1, none⟩))).run Tryd.prog w = .ok (.agg (nums .u8 r)) w :=
  read_flat w ⟨g, 1, none⟩ r hr fun j hj => by rw [Addr.add_mid, h.cell, signedV_low s r i u A n c hr (1 + j) (by omega)]; exact headV_get s r hr j hj
theorem signed_head (h : Row w g t (signedV s r i u A n c)) (hr : r.length = 32) : (readD (.pointer (some ⟨g, 0, none⟩))).run Tryd.prog w = .ok (.agg (headV s r)) w := by
  have hz := headV_size s r hr
  have e := run_loadAt_mid (P := Tryd.prog) w g 0 25 (headV s r).toList _ (h.rangeAt 0 _ (fun j v hv => by
    have hj : j < 33 := by
      rcases Nat.lt_or_ge j 33 with h' | h'
      · exact h'
      · rw [Array.getElem?_toList, Array.getElem?_eq_none (by omega)] at hv; cases hv
    rw [Nat.zero_add, signedV_low s r i u A n c hr j hj, ← Array.getElem?_toList]; exact hv)) Tryd.underlying25 rfl (sizeD _ (by rw [Array.length_toList]; exact hz))
  rw [Array.toArray_toList] at e
  exact e
theorem signed_seal (h : Row w g t (signedV s r i u A n c)) (hr : r.length = 32) : (readS (.pointer (some ⟨g, 33, none⟩))).run Tryd.prog w = .ok (.agg (sealV i u A n c)) w := by
  have e := run_loadAt_mid (P := Tryd.prog) w g 33 32 (sealV i u A n c).toList _ (h.rangeAt 33 _ (fun j v hv => by
    rw [signedV_high s r i u A n c hr j, ← Array.getElem?_toList]; exact hv)) Tryd.underlying32 rfl (sizeS _ rfl)
  rw [Array.toArray_toList] at e
  exact e
theorem signed_all (h : Row w g t (signedV s r i u A n c)) (hr : r.length = 32) : (readG (.pointer (some ⟨g, 0, none⟩))).run Tryd.prog w = .ok (.agg (signedV s r i u A n c)) w := by
  have e := run_loadAt_mid (P := Tryd.prog) w g 0 34 (signedV s r i u A n c).toList _ (h.rangeAt 0 _ (fun j v hv => by rw [Nat.zero_add, ← Array.getElem?_toList]; exact hv)) Tryd.underlying34 rfl (sizeG _ (by rw [Array.length_toList]; exact signedV_size s r i u A n c hr))
  rw [Array.toArray_toList] at e
  exact e
end
theorem Row.writeG {w : World} {g : Nat} {t : TypeId} {C D : Array Value} (h : Row w g t C) (hn : C.size = 36) (hd : D.size = 36) (h1 : D.all (·.oneCell') = true) : (writeG (.pointer (some ⟨g, 0, none⟩)) (.agg D)).run Tryd.prog w = .ok () (w.setRow g D) := by
  unfold Go.Proofs.YtpndccoikhejgaaDoor.writeG
  simp only [Instr.storeAt, Instr.sureAddr, Sem.run_bind, Sem.run_pure, Result.andThen_ok, run_storeVar_row w g t 34 C D h (sizeG _ hd) (by rw [hn, hd]) h1]
theorem get_loadD {o : Oper} {a : Act} {x : Operand} {p : Option Addr} {v : Value} {w : World} (ho : o.op = .load 25 x) (hx : a.eval x = .pointer p) (h : (readD (.pointer p)).run Tryd.prog w = .ok v w) : (execOp a.eval o).run Tryd.prog w = .ok (.value v) w := by
  unfold execOp
  simp only [ho, hx, read_d, Sem.run_bind, Sem.run_pure, h, Result.andThen_ok]
theorem get_loadG {o : Oper} {a : Act} {x : Operand} {p : Option Addr} {v : Value} {w : World} (ho : o.op = .load 34 x) (hx : a.eval x = .pointer p) (h : (readG (.pointer p)).run Tryd.prog w = .ok v w) : (execOp a.eval o).run Tryd.prog w = .ok (.value v) w := by
  unfold execOp
  simp only [ho, hx, read_g, Sem.run_bind, Sem.run_pure, h, Result.andThen_ok]
/-- Heads compared, as one step. -/
def eqD (x y : Value) : Sem Value := binOp .eql 25 x y
theorem eq_d (x y : Value) : binOp .eql 25 x y = eqD x y := rfl
def neqD (x y : Value) : Sem Value := binOp .neq 25 x y
theorem neq_d (x y : Value) : binOp .neq 25 x y = neqD x y := rfl
theorem part_size (s : Int) (r : List Int) (w : World) : (Go.part 3 (headV s r) 0).run Tryd.prog w = .ok (.int .i64 s) w := by
  have e := headV_get0 s r
  simp [Go.part, go_sem, e]
theorem part_root (s : Int) (r : List Int) (hr : r.length = 32) (w : World) : (Go.part 23 (headV s r) 1).run Tryd.prog w = .ok (.agg (nums .u8 r)) w := by
  have e : (headV s r).extract 1 33 = nums .u8 r := by
    unfold headV
    apply Array.ext_getElem?
    intro j
    rw [Array.getElem?_extract]
    by_cases hj : j < 32
    · rw [if_pos (by simp [nums_size, hr]; omega), Array.getElem?_append_right (by simp)]
      congr 1
      simp
    · rw [if_neg (by simp [nums_size, hr]; omega), Array.getElem?_eq_none (by rw [nums_size]; omega)]
  have hz : (headV s r).size = 33 := headV_size s r hr
  simp [Go.part, hz, e]
theorem eqFields_two {P : Program} (d : Nat) (xs ys : Array Value) (f g : Field) (w : World) (a a' b b' : Value) (r s : Bool) (h0 : f.name ≠ "_") (h1 : g.name ≠ "_")
    (p1 : (Go.part f.type xs f.offset).run P w = .ok a w) (p2 : (Go.part f.type ys f.offset).run P w = .ok a' w) (p3 : (Go.part g.type xs g.offset).run P w = .ok b w) (p4 : (Go.part g.type ys g.offset).run P w = .ok b' w)
    (e1 : (Op.equalIn d f.type a a').run P w = .ok r w) (e2 : (Op.equalIn d g.type b b').run P w = .ok s w) : (Op.eqFields d xs ys [f, g]).run P w = .ok (r && s) w := by
  rw [Op.eqFields, if_pos h0, Sem.run_bind, p1, Result.andThen_ok, Sem.run_bind, p2, Result.andThen_ok, Sem.run_bind, e1, Result.andThen_ok]
  cases r
  · rfl
  · rw [if_neg (by simp), Op.eqFields, if_pos h1, Sem.run_bind, p3, Result.andThen_ok, Sem.run_bind, p4, Result.andThen_ok, Sem.run_bind, e2, Result.andThen_ok]
    cases s <;> rfl
theorem equal_head (d : Nat) (s s' : Int) (r r' : List Int) (hr : r.length = 32 ∧ bytes r) (hr' : r'.length = 32 ∧ bytes r') (w : World) :
    (Op.equalIn (d + 2 + 1) 25 (.agg (headV s r)) (.agg (headV s' r'))).run Tryd.prog w = .ok (decide (s = s' ∧ r = r')) w := by
  rw [run_equalIn_struct w (d + 2) 25 _ _ (by kernel_rfl) (by kernel_rfl)]
  have h1 : (Op.equalIn (d + 2) 3 (.int .i64 s) (.int .i64 s')).run Tryd.prog w = .ok (s == s') w := run_equalIn_int w (d + 1) 3 .i64 .i64 s s' Tryd.underlying3
  have h2 : (Op.equalIn (d + 2) 23 (.agg (nums .u8 r)) (.agg (nums .u8 r'))).run Tryd.prog w = .ok (decide (r = r')) w := by
    have h := run_equalIn_bytes w d 23 5 32 Tryd.underlying23 Tryd.underlying5 Tryd.sizeOf5 (r.map fun x => UInt8.ofNat x.toNat) (r'.map fun x => UInt8.ofNat x.toNat) (by simpa using hr.1) (by simpa using hr'.1)
    rw [same_cells r r' hr.2 hr'.2, ← nums_cells r hr.2, ← nums_cells r' hr'.2] at h
    exact h
  have p1 := part_size s r w
  have p2 := part_size s' r' w
  have p3 := part_root s r hr.1 w
  have p4 := part_root s' r' hr'.1 w
  generalize d + 2 = D at h1 h2 ⊢
  simp only [Program.fieldsOf, Tryd.underlying25]
  have e : decide (s = s' ∧ r = r') = ((s == s') && decide (r = r')) := by
    by_cases hs : s = s'
    · subst hs; simp
    · simp [hs]
  rw [e]
  exact eqFields_two D _ _ _ _ w _ _ _ _ _ _ (by decide) (by decide) p1 p2 p3 p4 h1 h2
theorem eqD_head (s s' : Int) (r r' : List Int) (hr : r.length = 32 ∧ bytes r) (hr' : r'.length = 32 ∧ bytes r') (w : World) :
    (eqD (.agg (headV s r)) (.agg (headV s' r'))).run Tryd.prog w = .ok (.bool (decide (s = s' ∧ r = r'))) w := by
  unfold eqD
  have h := equal_head 9997 s s' r r' hr hr' w
  rw [show 9997 + 2 + 1 = 10000 from rfl] at h
  rw [run_eql_struct, h]; rfl
theorem neqD_head (s s' : Int) (r r' : List Int) (hr : r.length = 32 ∧ bytes r) (hr' : r'.length = 32 ∧ bytes r') (w : World) :
    (neqD (.agg (headV s r)) (.agg (headV s' r'))).run Tryd.prog w = .ok (.bool (!decide (s = s' ∧ r = r'))) w := by
  unfold neqD
  have h := equal_head 9997 s s' r r' hr hr' w
  rw [show 9997 + 2 + 1 = 10000 from rfl] at h
  rw [run_neq_struct, h]; rfl
end Go.Proofs.YtpndccoikhejgaaDoor
namespace Go.Proofs.YtpndccoikhejgaaDoor
open Go.RowKit Go.Great
set_option linter.unusedVariables false
set_option maxRecDepth 100000

/-- A part is filled in. -/
theorem fill_part (rng : Nat → Option (Nat × Nat)) (z : Array Value) (i o n : Nat) (v : Value) (hr : rng i = some (o, n)) (hv : v.cells.size = n) (hz : o + n ≤ z.size) :
    ∃ z', z'.size = z.size ∧ (∀ k, z'[k]? = if o ≤ k ∧ k < o + n then v.cells[k - o]? else z[k]?) ∧ ∀ rest, Instr.fill rng z ((i, v) :: rest) = Instr.fill rng z' rest := by
  obtain ⟨f1, f2⟩ := foldl_set o v.cells.toList 0 z
  refine ⟨_, f1, fun k => ?_, fun rest => ?_⟩
  · rw [f2 k]
    have hl : v.cells.toList.length = n := by rw [Array.length_toList, hv]
    rw [hl, Nat.add_zero]
    by_cases h : o ≤ k ∧ k < o + n
    · rw [if_pos h, if_pos ⟨h.1, h.2, by omega⟩, Array.getElem?_toList]
    · rw [if_neg h, if_neg (fun hc => h ⟨hc.1, hc.2.1⟩)]
  · rw [Instr.fill, hr]
    simp only [hv]
    rw [if_neg (by simp; omega)]
    congr 1
    rw [← Array.foldl_toList, Array.toList_zipIdx]
theorem built_head_is (x : List (Nat × Value)) : Tryd.prog.built 25 x = Instr.fill (#[(0, 1), (1, 32)][·]?) (headV 0 zeroL) x := by
  with_unfolding_all rfl
theorem built_signed_is (x : List (Nat × Value)) : Tryd.prog.built 34 x = Instr.fill (#[(0, 33), (33, 3)][·]?) (signedV 0 zeroL 0 ⟨#[]⟩ none 0 0) x := by
  kernel_rfl
theorem built_head (s : Int) (r : List Int) (hr : r.length = 32) : Tryd.prog.built 25 [(0, .int .i64 s), (1, .agg (nums .u8 r))] = some (headV s r) := by
  rw [built_head_is]
  obtain ⟨z1, s1, g1, e1⟩ := fill_part (#[(0, 1), (1, 32)][·]?) (headV 0 zeroL) 0 0 1 (.int .i64 s) rfl rfl (by rw [headV_size _ _ zeroL_is.1]; decide)
  obtain ⟨z2, s2, g2, e2⟩ := fill_part (#[(0, 1), (1, 32)][·]?) z1 1 1 32 (.agg (nums .u8 r)) rfl (by show (nums .u8 r).size = 32; rw [nums_size]; exact hr) (by rw [s1, headV_size _ _ zeroL_is.1]; decide)
  rw [e1, e2, Instr.fill]
  refine congrArg some ?_
  have hz := headV_size s r hr
  have h0 := headV_size 0 zeroL zeroL_is.1
  apply Array.ext_getElem?
  intro k
  rw [g2 k, g1 k]
  by_cases hk : k = 0
  · subst hk; rw [if_neg (by omega), if_pos (by omega), headV_get0]; rfl
  · by_cases hk2 : k < 33
    · obtain ⟨j, rfl⟩ : ∃ j, k = 1 + j := ⟨k - 1, by omega⟩
      rw [if_pos (by omega), headV_get s r hr j (by omega)]
      show (nums .u8 r)[1 + j - 1]? = _
      rw [Nat.add_sub_cancel_left, nums_get .u8 r j (by omega)]
    · rw [if_neg (by omega), if_neg (by omega), Array.getElem?_eq_none (by omega), Array.getElem?_eq_none (by omega)]
theorem built_head1 (s : Int) : Tryd.prog.built 25 [(0, .int .i64 s)] = some (headV s zeroL) := by
  rw [built_head_is]
  obtain ⟨z1, s1, g1, e1⟩ := fill_part (#[(0, 1), (1, 32)][·]?) (headV 0 zeroL) 0 0 1 (.int .i64 s) rfl rfl (by rw [headV_size _ _ zeroL_is.1]; decide)
  rw [e1, Instr.fill]
  refine congrArg some ?_
  have hz := headV_size s zeroL zeroL_is.1
  have h0 := headV_size 0 zeroL zeroL_is.1
  apply Array.ext_getElem?
  intro k
  rw [g1 k]
  by_cases hk : k = 0
  · subst hk; rw [if_pos (by omega), headV_get0]; rfl
  · rw [if_neg (by omega)]
    by_cases hk2 : k < 33
    · obtain ⟨j, rfl⟩ : ∃ j, k = 1 + j := ⟨k - 1, by omega⟩
      rw [headV_get _ _ zeroL_is.1 j (by omega), headV_get _ _ zeroL_is.1 j (by omega)]
    · rw [Array.getElem?_eq_none (by omega), Array.getElem?_eq_none (by omega)]
theorem built_signed (s : Int) (r : List Int) (hr : r.length = 32) (i : Int) (t : ByteArray) (A : Option Addr) (n c : Nat) : Tryd.prog.built 34 [(0, .agg (headV s r)), (1, .agg (sealV i t A n c))] = some (signedV s r i t A n c) := by
  rw [built_signed_is]
  have h0 := signedV_size 0 zeroL 0 ⟨#[]⟩ none 0 0 zeroL_is.1
  obtain ⟨z1, s1, g1, e1⟩ := fill_part (#[(0, 33), (33, 3)][·]?) (signedV 0 zeroL 0 ⟨#[]⟩ none 0 0) 0 0 33 (.agg (headV s r)) rfl (headV_size s r hr) (by rw [h0]; decide)
  obtain ⟨z2, s2, g2, e2⟩ := fill_part (#[(0, 33), (33, 3)][·]?) z1 1 33 3 (.agg (sealV i t A n c)) rfl rfl (by rw [s1, h0]; decide)
  rw [e1, e2, Instr.fill]
  refine congrArg some ?_
  have hz := signedV_size s r i t A n c hr
  apply Array.ext_getElem?
  intro k
  rw [g2 k, g1 k]
  by_cases hk : k < 33
  · rw [if_neg (by omega), if_pos (by omega), signedV_low s r i t A n c hr k hk]; rfl
  · by_cases hk2 : k < 36
    · obtain ⟨j, rfl⟩ : ∃ j, k = 33 + j := ⟨k - 33, by omega⟩
      rw [if_pos (by omega), signedV_high s r i t A n c hr j]
      show (sealV i t A n c)[33 + j - 33]? = _
      rw [Nat.add_sub_cancel_left]
    · rw [if_neg (by omega), if_neg (by omega), Array.getElem?_eq_none (by omega), Array.getElem?_eq_none (by omega)]
theorem built_signed1 (s : Int) (r : List Int) (hr : r.length = 32) : Tryd.prog.built 34 [(0, .agg (headV s r))] = some (signedV s r 0 ⟨#[]⟩ none 0 0) := by
  rw [built_signed_is]
  have h0 := signedV_size 0 zeroL 0 ⟨#[]⟩ none 0 0 zeroL_is.1
  obtain ⟨z1, s1, g1, e1⟩ := fill_part (#[(0, 33), (33, 3)][·]?) (signedV 0 zeroL 0 ⟨#[]⟩ none 0 0) 0 0 33 (.agg (headV s r)) rfl (headV_size s r hr) (by rw [h0]; decide)
  rw [e1, Instr.fill]
  refine congrArg some ?_
  have hz := signedV_size s r 0 ⟨#[]⟩ none 0 0 hr
  apply Array.ext_getElem?
  intro k
  rw [g1 k]
  by_cases hk : k < 33
  · rw [if_pos (by omega), signedV_low s r 0 ⟨#[]⟩ none 0 0 hr k hk]; rfl
  · rw [if_neg (by omega)]
    by_cases hk2 : k < 36
    · obtain ⟨j, rfl⟩ : ∃ j, k = 33 + j := ⟨k - 33, by omega⟩
      rw [signedV_high _ _ _ _ _ _ _ zeroL_is.1 j, signedV_high s r 0 ⟨#[]⟩ none 0 0 hr j]
    · rw [Array.getElem?_eq_none (by omega), Array.getElem?_eq_none (by omega)]
theorem built_signed0 : Tryd.prog.built 34 [] = some (signedV 0 zeroL 0 ⟨#[]⟩ none 0 0) := by rw [built_signed_is]; rfl
section
variable {ops : Array Oper} {rest : List Oper} {o : Oper} {a : Act} {w : World} {Q : Exit → Act → World → Prop}
theorem wpList_built {T : TypeId} {parts : Array (Nat × Operand)} {cells : Array Value} (hgd : o.guard = none) (ho : o.op = .build T parts) (h : Tryd.prog.built T (parts.map fun (i, x) => (i, a.eval x)).toList = some cells) (hk : wpList Tryd.prog ops Q rest (a.put o.dst (.agg cells)) w) : wpList Tryd.prog ops Q (o :: rest) a w :=
  wpList_plain hgd fun _ hK => by
    unfold Oper.wp execOp
    simp only [ho, Sem.run_bind, Sem.run_pure, run_build w T _ cells h, Result.andThen_ok]
    exact hK _ _ hk
theorem wpList_built_head (hgd : o.guard = none) (x y : Operand) (ho : o.op = .build 25 #[(0, x), (1, y)]) (s : Int) (r : List Int) (hr : r.length = 32) (hx : a.eval x = .int .i64 s) (hy : a.eval y = .agg (nums .u8 r)) (hk : wpList Tryd.prog ops Q rest (a.put o.dst (.agg (headV s r))) w) : wpList Tryd.prog ops Q (o :: rest) a w :=
  wpList_built hgd ho (by
    have e : ((#[(0, x), (1, y)] : Array (Nat × Operand)).map fun (i, x) => (i, a.eval x)).toList = [(0, .int .i64 s), (1, .agg (nums .u8 r))] := by simp [hx, hy]
    rw [e]; exact built_head s r hr) hk
theorem wpList_built_signed (hgd : o.guard = none) (x y : Operand) (ho : o.op = .build 34 #[(0, x), (1, y)]) (s : Int) (r : List Int) (hr : r.length = 32) (i : Int) (t : ByteArray) (A : Option Addr) (n c : Nat) (hx : a.eval x = .agg (headV s r)) (hy : a.eval y = .agg (sealV i t A n c)) (hk : wpList Tryd.prog ops Q rest (a.put o.dst (.agg (signedV s r i t A n c))) w) : wpList Tryd.prog ops Q (o :: rest) a w :=
  wpList_built hgd ho (by
    have e : ((#[(0, x), (1, y)] : Array (Nat × Operand)).map fun (i, x) => (i, a.eval x)).toList = [(0, .agg (headV s r)), (1, .agg (sealV i t A n c))] := by simp [hx, hy]
    rw [e]; exact built_signed s r hr i t A n c) hk
theorem wpList_built_none (hgd : o.guard = none) (ho : o.op = .build 34 #[]) (hk : wpList Tryd.prog ops Q rest (a.put o.dst (.agg (signedV 0 zeroL 0 ⟨#[]⟩ none 0 0))) w) : wpList Tryd.prog ops Q (o :: rest) a w :=
  wpList_built hgd ho (by
    have e : ((#[] : Array (Nat × Operand)).map fun (i, x) => (i, a.eval x)).toList = [] := by simp
    rw [e]; exact built_signed0) hk
end
end Go.Proofs.YtpndccoikhejgaaDoor
namespace Go.Proofs.YtpndccoikhejgaaDoor
open Go.RowKit
set_option linter.unusedVariables false

/-- How many zeros. -/
def zerosN (n : Nat) : Nat := (119 - n % 64) % 64
theorem zerosN_lt (n : Nat) : zerosN n < 64 := by unfold zerosN; omega
theorem zerosN_is (n : Nat) : (n + 1 + zerosN n) % 64 = 56 := by unfold zerosN; omega
theorem zerosN_le (n z : Nat) (h : (n + 1 + z) % 64 = 56) (hz : z ≤ zerosN n) : z = zerosN n := by unfold zerosN at *; omega
/-- The first q of the eight bytes of a number. -/
def beL (N : Int) : Nat → List Int
  | 0 => []
  | q + 1 => beL N q ++ [N / 2 ^ (8 * (7 - q)) % 256]
def padL (s : ByteArray) : List Int := textL s ++ [128] ++ List.replicate (zerosN s.size) 0 ++ beL ((s.size : Int) * 8) 8
def lenV : Value → Nat
  | .slice _ n _ => n
  | _ => 0
set_option maxHeartbeats 4000000 in
set_option maxRecDepth 100000 in
theorem pad_any (s : ByteArray) (hs : s.size ≤ 1000000) (w : World) :
    Calls Tryd.prog 60 #[.string s] w fun ev w' => ∃ g cap, ev = .returned (.slice (some ⟨g, 0, none⟩) (s.size + 1 + zerosN s.size + 8) cap) ∧ Got w' w.heap.size g cap (padL s) (s.size + 1 + zerosN s.size + 8) ∧ Below w.heap.size w w' := by
  obtain ⟨wb, cap0, hcv, G0, B0⟩ := conv_text w s
  have hzl := zerosN_lt s.size
  go_enter Tryd.func60, Tryd.ntmps60
  go_wp2_with (at_builtin; refine wpList_append_got _ rfl (.tmp 7) (.tmp 8) rfl w.heap.size w.heap.size cap0 s.size (textL s) rfl (G0.out.alloc _) ?hB1 wb.heap.size 1 1 5 [128] rfl (by omega) rfl (Row.made wb _ _) (by omega) ?kont1)
  case hB1 => have := B0.out.size; simp; omega
  case kont1 =>
    intro g1 cap1 w1 G1 B1
    have GH : Hid (Got w1 w.heap.size g1 cap1 (textL s ++ [128] ++ List.replicate 0 0) (s.size + 1)) := Lib.hid (by simpa using G1)
    have BH : Hid (Below w.heap.size w w1) := Lib.hid ((B0.out.alloc B0.out.size _).trans B1)
    clear hcv G0 B0 G1 B1
    go_wp2
    go_loopw [3] (fun v wr => ∃ g cap m z, v = .slice (some ⟨g, 0, none⟩) m cap ∧ m = s.size + 1 + z ∧ z ≤ zerosN s.size ∧ Hid (Got wr w.heap.size g cap (textL s ++ [128] ++ List.replicate z 0) m) ∧ Hid (Below w.heap.size w wr)) (fun v _ => 1000100 - lenV v)
    case atStart => exact ⟨g1, cap1, _, 0, rfl, rfl, Nat.zero_le _, GH, BH⟩
    case round =>
      clear GH BH
      obtain ⟨g, cap, m, z, rfl, hm, hz, HG, HB⟩ := hrel
      by_cases h56 : m % 64 = 56
      · have ez : z = zerosN s.size := zerosN_le _ _ (by rw [← hm]; exact h56) hz
        have HM : Hid (m = s.size + 1 + zerosN s.size) := Lib.hid (by omega)
        obtain ⟨L, HL⟩ : ∃ L, Hid (L = textL s ++ [128] ++ List.replicate (zerosN s.size) 0) := ⟨_, Lib.hid rfl⟩
        rw [ez, ← HL.out] at HG
        have hmb : m ≤ 1000070 := by omega
        clear hm hz ez hzl
        have et : (m : Int).tmod 64 = 56 := by
          rw [Int.tmod_eq_emod_of_nonneg (by omega)]; omega
        clear h56
        go_wp2
        go_loopw [3, 5] (fun v i wr => ∃ g cap q x, v = .slice (some ⟨g, 0, none⟩) (m + q) cap ∧ i = .int .i64 x ∧ x = 7 - (q : Int) ∧ q ≤ 8 ∧ Hid (Got wr w.heap.size g cap (L ++ beL ((s.size : Int) * 8) q) (m + q)) ∧ Hid (Below w.heap.size w wr)) (fun _ i _ => (intOf i + 1).toNat)
        case atStart => exact ⟨g, cap, 0, 7, rfl, rfl, by omega, by omega, Lib.hid (by simpa [beL] using HG.out), HB⟩
        case round =>
          clear HG HB et
          obtain ⟨g, cap, q, x, rfl, rfl, hx, hq, HG, HB⟩ := hrel
          by_cases h0 : x < 0
          · have hq8 : q = 8 := by omega
            have HQ : Hid (q = 8) := Lib.hid hq8
            clear hx hq hq8
            go_wp2
            go_ret
            refine ⟨g, cap, by rw [HM.out, HQ.out]; rfl, ?_, HB.out⟩
            have := HG.out
            rw [HQ.out, HL.out, HM.out] at this
            exact this
          · obtain ⟨r, rfl⟩ : ∃ r : Nat, x = r := ⟨x.toNat, by omega⟩
            have hr : r ≤ 7 := by omega
            have HX : Hid (7 - q = r ∧ q < 8) := Lib.hid (by omega)
            clear hx hq h0
            go_wp2_with (at_builtin; refine wpList_append_got _ rfl (.tmp 25) (.tmp 31) rfl w.heap.size g cap (m + q) _ rfl (HG.out.alloc _) ?hB2 _ 1 1 5 [_] rfl (by omega) rfl (Row.made _ _ _) (by have := HX.out; omega) ?kont2)
            case hB2 => have := HB.out.size; simp; omega
            case kont2 =>
              intro g2 cap2 w2 G2 B2
              go_wp2
              go_roundw
              case rel =>
                have hX := HX.out
                exact ⟨g2, cap2, q + 1, _, rfl, rfl, by omega, by omega, Lib.hid (by simp only [beL, hX.1]; exact G2), Lib.hid ((HB.out.alloc HB.out.size _).trans B2)⟩
              case measure => first | (simp [intOf]; done) | (simp [intOf]; omega)
      · have hzz : z < zerosN s.size := by
          rcases Nat.lt_or_ge z (zerosN s.size) with h | h
          · exact h
          · exfalso; apply h56; rw [hm, show z = zerosN s.size by omega]; exact zerosN_is s.size
        have et : ((m : Int).tmod 64 != 56) = true := by
          rw [Int.tmod_eq_emod_of_nonneg (by omega)]; simp; omega
        have et2 : ¬ ((m : Int).tmod 64 = 56) := by simpa using et
        go_wp2_with (at_builtin; refine wpList_append_got _ rfl (.tmp 14) (.tmp 15) rfl w.heap.size g cap m _ rfl (HG.out.alloc _) ?hB3 _ 1 1 5 [0] rfl (by omega) rfl (Row.made _ _ _) (by omega) ?kont3)
        case hB3 => have := HB.out.size; simp; omega
        case kont3 =>
          intro g2 cap2 w2 G2 B2
          go_wp2
          go_roundw
          case rel => exact ⟨g2, cap2, _, z + 1, rfl, by omega, by omega, Lib.hid (by rw [List.replicate_succ']; simpa using G2), Lib.hid ((HB.out.alloc HB.out.size _).trans B2)⟩
          case measure => simp [lenV]; omega
#print axioms pad_any
end Go.Proofs.YtpndccoikhejgaaDoor
namespace Go.Proofs.YtpndccoikhejgaaDoor
open Go.RowKit
set_option linter.unusedVariables false

/-- The text, filled up. -/
def fullS (s : ByteArray) : ByteArray := ((s ++ mark) ++ zerosS (zerosN s.size)) ++ putS (8 * (s.size : Int)) 8
theorem extract_join (s : ByteArray) (k : Nat) (h : k ≤ s.size) : s.extract 0 k ++ s.extract k s.size = s := by
  rw [ByteArray.extract_append_extract, Nat.min_eq_left (Nat.zero_le _), Nat.max_eq_right h, ByteArray.extract_zero_size]
theorem fullS_split (s : ByteArray) : fullS s = s.extract 0 (64 * (s.size / 64)) ++ fillS (s.extract (64 * (s.size / 64)) s.size) s.size := by
  have e : (119 - (s.extract (64 * (s.size / 64)) s.size).size) % 64 = zerosN s.size := by
    rw [ByteArray.size_extract]; unfold zerosN; omega
  unfold fullS fillS
  rw [e, ← ByteArray.append_assoc, ← ByteArray.append_assoc, ← ByteArray.append_assoc, extract_join s _ (by omega)]
theorem fullS_size (s : ByteArray) : (fullS s).size = s.size + 1 + zerosN s.size + 8 := by
  unfold fullS
  rw [ByteArray.size_append, ByteArray.size_append, ByteArray.size_append, zerosS_size, put8_size]; rfl
theorem join (s : ByteArray) (N : Nat) (hN : (fullS s).size = 64 * N) : sumL s = bytesL (Sha.blocks Ks Hs (fullS s) N).list := by
  have hA : (s.extract 0 (64 * (s.size / 64))).size = 64 * (s.size / 64) := by rw [ByteArray.size_extract]; omega
  have hF : (fullS s).size = 64 * (s.size / 64) + (fillS (s.extract (64 * (s.size / 64)) s.size) s.size).size := by
    rw [fullS_split, ByteArray.size_append, hA]
  have e1 : N = s.size / 64 + (fillS (s.extract (64 * (s.size / 64)) s.size) s.size).size / 64 := by omega
  have h64 : (fillS (s.extract (64 * (s.size / 64)) s.size) s.size).size = 64 * ((fillS (s.extract (64 * (s.size / 64)) s.size) s.size).size / 64) := by omega
  unfold sumL
  rw [e1, Sha.blocks_add Ks Hs (fullS s) (fillS (s.extract (64 * (s.size / 64)) s.size) s.size) _ _ (fun i hi => by
    rw [fullS_split, getb_right _ _ _ (by rw [hA]; omega) (by rw [hA]; omega), hA, Nat.add_sub_cancel_left])]
  rw [Sha.blocks_congr Ks Hs (fullS s) (s.extract 0 (64 * (s.size / 64))) (s.size / 64) (fun i hi => by
    rw [fullS_split, getb_left _ _ _ (by rw [hA]; omega)])]
theorem textL_zeros (z : Nat) : textL (zerosS z) = List.replicate z 0 := by
  induction z with
  | zero => rfl
  | succ z ih =>
    show textL ⟨([0] ++ Lib.repeatL [0] z).toArray⟩ = _
    rw [List.replicate_succ, ← ih]
    rfl
theorem putL_beL (N : Int) : putL N 8 = beL N 8 := rfl
theorem padL_text (s : ByteArray) : padL s = textL (fullS s) := by
  unfold fullS padL
  rw [textL_app, textL_app, textL_app, textL_zeros, putS_some _ 8 (by omega), textL_nums _ (fun x hx => ?_), Int.mul_comm]
  · rfl
  · simp [putL] at hx
    omega
theorem padL_get (s : ByteArray) (i : Nat) (h : i < (fullS s).size) : (padL s).getD i 0 = (((fullS s).get! i).toNat : Int) := by
  rw [padL_text, get_elem _ i h]
  have hl : i < (fullS s).data.toList.length := by rw [Array.length_toList]; exact h
  unfold textL
  simp [List.getD, h]
  rfl
#print axioms join
#print axioms padL_get
end Go.Proofs.YtpndccoikhejgaaDoor
namespace Go.Proofs.YtpndccoikhejgaaDoor
open Go.RowKit
set_option linter.unusedVariables false

theorem turn_of (x : Int) (k : Nat) (h : 0 ≤ x ∧ x < 4294967296) (h1 : 1 ≤ k) (h2 : k ≤ 31) :
    bits .or .u32 (x / 2 ^ k) (x * 2 ^ (32 - k) % 4294967296) = Math.rot x (-(k : Int)) := by
  have e := rot_of x (-(k : Int)) (32 - k) h (by omega) (by omega)
  rw [show 32 - (32 - k) = k by omega] at e
  rw [← e]
  obtain ⟨n, rfl⟩ : ∃ n : Nat, x = n := ⟨x.toNat, by omega⟩
  have hn : n < 4294967296 := by omega
  have e1 : (n : Int) * 2 ^ (32 - k) % 4294967296 = ((n * 2 ^ (32 - k) % 4294967296 : Nat) : Int) := by
    rw [Int.natCast_emod, Int.natCast_mul, Int.natCast_pow]; rfl
  have e2 : (n : Int) / 2 ^ k = ((n / 2 ^ k : Nat) : Int) := by
    rw [Int.natCast_ediv, Int.natCast_pow]; rfl
  have l2 : n / 2 ^ k < 4294967296 := Nat.lt_of_le_of_lt (Nat.div_le_self _ _) hn
  rw [e1, e2, u32_or_nat _ _ (by omega) (by omega), u32_or_nat _ _ (by omega) (by omega), Nat.or_comm]
set_option maxHeartbeats 400000 in
theorem turn_any (x : Int) (k : Nat) (w : World) (h : 0 ≤ x ∧ x < 4294967296) (h1 : 1 ≤ k) (h2 : k ≤ 31) :
    Calls Tryd.prog 61 #[.int .u32 x, .int .u32 (k : Int)] w fun e w' => e = .returned (.int .u32 (Math.rot x (-(k : Int)))) ∧ w = w' := by
  have HO := Lib.hid (turn_of x k h h1 h2)
  have hw : IntKind.u32.wrap (32 - (k : Int)) = ((32 - k : Nat) : Int) := by rw [IntKind.wrap_u32]; omega
  have ht : (32 - (k : Int)).toNat = 32 - k := by omega
  go_enter Tryd.func61, Tryd.ntmps61
  go_wp2
  go_ret
  refine ⟨ret_u32 ?_, rfl⟩
  exact HO.out
#print axioms turn_any
end Go.Proofs.YtpndccoikhejgaaDoor
