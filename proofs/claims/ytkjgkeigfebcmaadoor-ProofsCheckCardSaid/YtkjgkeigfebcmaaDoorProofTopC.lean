/-
  Proved: called with any claim (two sizes, two roots) and any list of hashes, the statement ProofsCheck (whether they check is the document's; so it is of sizes brought within, with the roots and the proof of some leaves, and with one hash of it, or a root, another one; of more than 80 hashes it asks the examples alone) returns true, and its arguments read as before. Condition: the two tables of the package sha hold what the program's text lays, which the card ties to that text.
-/
import Derived.Test.YtkjgkeigfebcmaaDoorListMem
import Derived.Test.YtkjgkeigfebcmaaDoorPathReverse
import Derived.Deep.MidRow
import Derived.Test.YtkjgkeigfebcmaaDoorProofFound
import Derived.Test.YtkjgkeigfebcmaaDoorProofRefCheck
import Derived.Test.YtkjgkeigfebcmaaDoorProofRefProof
import Derived.Test.YtkjgkeigfebcmaaDoorListCard
namespace Go.Proofs.YtkjgkeigfebcmaaDoor
open Go.RowKit Go.Great
set_option linter.unusedVariables false
set_option maxRecDepth 100000

theorem append_nilH (ty : TypeId) (c : Nat) (w : World) : (Builtin.append_ #[22, 22] ty #[.slice none 0 0, .slice none 0 c]).run Tryd.prog w = .ok (.slice none 0 0) w := by
  obtain ⟨i0, hi, hz0, hz1, hz2⟩ := info_parts infoHash
  simp [Builtin.append_, run_underlying Tryd.underlying22, sizeOf, typeInfo, hi, Builtin.lenOf, Builtin.firstCells]
theorem wp_appendC {o : Oper} {a : Act} {w : World} {K : Act → World → Prop} {Q : Exit → Act → World → Prop} (s x : Operand) (ho : o.op = .call { callee := .builtin .append, args := #[s, x], argTypes := #[22, 22] })
    (B : Nat) (us : List (List Int)) (hsv : a.eval s = .slice none 0 0) (A : Option Addr) (m c : Nat) (hx : a.eval x = .slice A m c) (hm : m = us.length) (hu : hashes us) (hU : HL w w.heap.size A us) (hsm : m ≤ 8192) (hB : B ≤ w.heap.size)
    (h : ∀ v' w', w'.ownsRow B 30 32 v' m (cellsL us) → w.grownBy w' none → K (a.put o.dst v') w') : o.wp Tryd.prog a w K Q := by
  cases A with
  | some ad =>
    refine wp_appendH s x ho B (.slice none 0 0) 0 [] us hsv ⟨rfl, .inl ⟨rfl, rfl⟩⟩ ad m c hx hm hu hU (by omega) hB (fun v' w' h1 h2 => ?_)
    rw [Nat.zero_add] at h1
    exact h v' w' h1 h2
  | none =>
    have e0 : us = [] := by
      cases us with
      | nil => rfl
      | cons u us => obtain ⟨ad, e⟩ := hU.some 0 (by simp); cases e
    subst e0
    obtain rfl : m = 0 := hm
    have hk := h (.slice none 0 0) w ⟨rfl, .inl ⟨rfl, rfl⟩⟩ (grown_of_below (Below.refl _ _) none)
    unfold Oper.wp execOp
    simp only [ho, resolve, invoke, builtin, Sem.run_bind, Sem.run_pure, Result.andThen_ok, List.map_toArray, List.map_cons, List.map_nil, hsv, hx, append_nilH]
    exact hk
end Go.Proofs.YtkjgkeigfebcmaaDoor
namespace Go.Proofs.YtkjgkeigfebcmaaDoor
open Go.RowKit Go.Great
set_option linter.unusedVariables false
set_option maxRecDepth 100000

theorem wpList_appendC {ops : Array Oper} {rest : List Oper} {o : Oper} {a : Act} {w : World} {Q : Exit → Act → World → Prop} (hgd : o.guard = none) (s x : Operand) (ho : o.op = .call { callee := .builtin .append, args := #[s, x], argTypes := #[22, 22] })
    (B : Nat) (us : List (List Int)) (hsv : a.eval s = .slice none 0 0) (A : Option Addr) (m c : Nat) (hx : a.eval x = .slice A m c) (hm : m = us.length) (hu : hashes us) (hU : HL w w.heap.size A us) (hsm : m ≤ 8192) (hB : B ≤ w.heap.size)
    (h : ∀ v' w', w'.ownsRow B 30 32 v' m (cellsL us) → w.grownBy w' none → wpList Tryd.prog ops Q rest (a.put o.dst v') w') : wpList Tryd.prog ops Q (o :: rest) a w :=
  wpList_plain hgd fun _ hK => wp_appendC s x ho B us hsv A m c hx hm hu hU hsm hB fun v' w' h1 h2 => hK _ _ (h v' w' h1 h2)
theorem wpList_store_at {P : Program} {ops : Array Oper} {rest : List Oper} {op : Oper} {a : Act} {w : World} {Q : Exit → Act → World → Prop} (hgd : op.guard = none) (ty : TypeId) (x y : Operand) (ho : op.op = .store ty x y)
    (b o : Nat) (cells : Array Value) (hx : a.eval x = .pointer (some ((⟨b, 0, none⟩ : Addr).add o))) (hy : a.eval y = .agg cells)
    (ht : w.there b o cells.size) (hi : (P.info? ty).map (·.size) = some cells.size) (h1 : cells.all (·.oneCell') = true)
    (h : wpList P ops Q rest (a.put op.dst undef) (w.setCells b o cells.toList)) : wpList P ops Q (op :: rest) a w :=
  wpList_store_mid hgd ty x y ho b o cells (by rw [hx, add_flat]) hy ht hi h1 h
end Go.Proofs.YtkjgkeigfebcmaaDoor
namespace Go.Proofs.YtkjgkeigfebcmaaDoor
open Go.RowKit Go.Great
set_option linter.unusedVariables false
set_option maxRecDepth 100000

/-- A claim's cells. -/
def claimV (m n : Int) (older newer : List Int) : Array Value := #[.int .i64 m, .int .i64 n] ++ nums .u8 (older ++ newer)
theorem claim_read {w : World} {b : Nat} {older newer : List Int} {m n : Int} (hl : older.length = 32) (hr : newer.length = 32) (h : Row w b 32 (claimV m n older newer)) :
    (readAt (.pointer (some ⟨b, 2, none⟩))).run Tryd.prog w = .ok (.agg (nums .u8 older)) w ∧ (readAt (.pointer (some ⟨b, 34, none⟩))).run Tryd.prog w = .ok (.agg (nums .u8 newer)) w ∧ w.cell? ⟨b, 0, none⟩ = some (.int .i64 m) ∧ w.cell? ⟨b, 1, none⟩ = some (.int .i64 n) := by
  refine ⟨read_flat w _ older hl (fun j hj => ?_), read_flat w _ newer hr (fun j hj => ?_), ?_, ?_⟩
  · rw [show (⟨b, 2, none⟩ : Addr).add j = ⟨b, 2 + j, none⟩ by unfold Addr.add; split <;> simp_all, h.cell]
    unfold claimV
    rw [Array.getElem?_append_right (by simp), show 2 + j - (#[Value.int .i64 m, .int .i64 n]).size = j by simp, nums_get .u8 _ j (by rw [List.length_append]; omega), List.getD_eq_getElem?_getD, List.getElem?_append_left (by omega), ← List.getD_eq_getElem?_getD]
  · rw [show (⟨b, 34, none⟩ : Addr).add j = ⟨b, 34 + j, none⟩ by unfold Addr.add; split <;> simp_all, h.cell]
    unfold claimV
    rw [Array.getElem?_append_right (by simp; omega), show 34 + j - (#[Value.int .i64 m, .int .i64 n]).size = 32 + j by simp; omega, nums_get .u8 _ (32 + j) (by rw [List.length_append]; omega), List.getD_eq_getElem?_getD, List.getElem?_append_right (by omega), hl, show 32 + j - 32 = j by omega, ← List.getD_eq_getElem?_getD]
  · rw [h.cell]; unfold claimV; rw [Array.getElem?_append_left (by simp)]; rfl
  · rw [h.cell]; unfold claimV; rw [Array.getElem?_append_left (by simp)]; rfl
/-- A number's last seven bits. -/
theorem and_127 (x : Int) : bits .and .i64 x 127 = x % 128 := by
  have oa : (BitVec.ofInt 64 x).toNat = (x % 18446744073709551616).toNat := by rw [BitVec.toNat_ofInt]; rfl
  have ob : (BitVec.ofInt 64 (127 : Int)).toNat = 127 := by decide
  show IntKind.i64.wrap ((BitVec.ofInt 64 x &&& BitVec.ofInt 64 127).toNat : Int) = _
  rw [BitVec.toNat_and, oa, ob, show (127 : Nat) = 2 ^ 7 - 1 by decide, Nat.and_two_pow_sub_one_eq_mod, IntKind.wrap_i64]
  omega
/-- What the statement holds, before the leaves: the claim, the list. -/
structure CkH (w : World) (CL : Array Value) (A : Option Addr) (ps : List (List Int)) (W : World) : Prop where
  cl : Row W w.heap.size 32 CL
  ps : HW W A ps
  tab : Tab W
  below : Below w.heap.size w W
theorem CkH.next {w W W1 : World} {CL : Array Value} {A : Option Addr} {ps : List (List Int)} (h : CkH w CL A ps W) (hb : Below W.heap.size W W1) : CkH w CL A ps W1 :=
  ⟨h.cl.next hb, h.ps.next hb, h.tab.next hb, below_new h.below hb⟩
/-- And with them: both roots, the leaves, the proof. -/
structure CxH (w : World) (CL : Array Value) (A : Option Addr) (ps : List (List Int)) (g10 : Nat) (X R : Array Value) (Al Ap : Option Addr) (ls P : List (List Int)) (W : World) : Prop where
  ck : CkH w CL A ps W
  o : Row W g10 30 X
  rt : Row W (g10 + 1) 30 R
  ls : HW W Al ls
  path : HW W Ap P
theorem CxH.next {w W W1 : World} {CL : Array Value} {A : Option Addr} {ps : List (List Int)} {g10 : Nat} {X R : Array Value} {Al Ap : Option Addr} {ls P : List (List Int)} (h : CxH w CL A ps g10 X R Al Ap ls P W) (hb : Below W.heap.size W W1) : CxH w CL A ps g10 X R Al Ap ls P W1 :=
  ⟨h.ck.next hb, h.o.next hb, h.rt.next hb, h.ls.next hb, h.path.next hb⟩
attribute [local go_sem ↓ high] read_at write_at eq_at neq_at
set_option maxHeartbeats 80000000 in
theorem pchecklaw_any (older newer : List Int) (hl32 : older.length = 32 ∧ bytes older) (hr32 : newer.length = 32 ∧ bytes newer) (cm cn : Int) (hcm64 : -9223372036854775808 ≤ cm ∧ cm ≤ 9223372036854775807) (hcn : -9223372036854775808 ≤ cn ∧ cn ≤ 9223372036854775807)
    (ps : List (List Int)) (hps : hashes ps) (A : Option Addr) (c : Nat) (w : World) (hA : HL w w.heap.size A ps) (hT : Tab w) (hc : ps.length ≤ c) (hcm : c ≤ maxLen) :
    Calls Tryd.prog 4 #[.agg (claimV cm cn older newer), .slice A ps.length c] w fun e w' => e = .returned (.bool true) ∧ Below w.heap.size w w' := by
  obtain ⟨pl, hpl⟩ : ∃ n, Hid (n = ps.length) := ⟨_, Lib.hid rfl⟩
  obtain ⟨CL, hCL⟩ : ∃ C, Hid (C = claimV cm cn older newer) := ⟨_, Lib.hid rfl⟩
  obtain ⟨OL, hOL⟩ : ∃ O, Hid (O = nums .u8 older) := ⟨_, Lib.hid rfl⟩
  obtain ⟨NW, hNW⟩ : ∃ O, Hid (O = nums .u8 newer) := ⟨_, Lib.hid rfl⟩
  have zO : Hid (OL.size = 32) := Lib.hid (by rw [hOL.out, nums_size]; exact hl32.1)
  have oO : Hid (OL.all (·.oneCell') = true) := Lib.hid (by rw [hOL.out]; exact nums_one _ _)
  have hcm2 : c ≤ 9223372036854775807 := by unfold maxLen at hcm; omega
  have hplm : pl ≤ c := by rw [hpl.out]; exact hc
  have HCA := Lib.hid (And.intro hc hcm)
  have HT := Lib.hid hT
  have HAw : Hid (HW w A ps) := Lib.hid hA
  have H32 := Lib.hid (And.intro hl32 hr32)
  have HPS := Lib.hid hps
  have HCI := Lib.hid hcm64
  have HCN := Lib.hid hcn
  -- Check of whatever, the program's and the document's
  have CP : Hid (∀ W B d (j n : Int) (y r : List Int) (P' : List (List Int)) (Y Rr : Array Value) (l : Nat), HW W B P' → Tab W → hashes P' → P'.length = l → (-9223372036854775808 ≤ j ∧ j ≤ 9223372036854775807) → (-9223372036854775808 ≤ n ∧ n ≤ 9223372036854775807) → (l ≤ d ∧ d ≤ maxLen) → Y = nums .u8 y → Rr = nums .u8 r → (y.length = 32 ∧ bytes y) → (r.length = 32 ∧ bytes r) → Calls Tryd.prog 11 #[.int .i64 j, .int .i64 n, .agg Y, .agg Rr, .slice B l d] W fun e w' => e = .returned (.int .i64 (checkP j n y r P')) ∧ Below W.heap.size W w') := Lib.hid fun W B d j n y r P' Y Rr l hB hTW hP' hl hj hn hd hY hRr hy hr => by
    have := pcheck_any y r hy hr j n hj hn P' hP' B d W hB hTW (by rw [hl]; exact hd.1) (by have := hd.2; unfold maxLen at this; omega)
    rwa [hl, ← hY, ← hRr] at this
  have CR : Hid (∀ W B d (j n : Int) (y r : List Int) (P' : List (List Int)) (Y Rr : Array Value) (l : Nat), HW W B P' → hashes P' → P'.length = l → (-9223372036854775808 ≤ j ∧ j ≤ 9223372036854775807) → (-9223372036854775808 ≤ n ∧ n ≤ 9223372036854775807) → (l ≤ d ∧ d ≤ maxLen) → Y = nums .u8 y → Rr = nums .u8 r → (y.length = 32 ∧ bytes y) → (r.length = 32 ∧ bytes r) → Calls Tryd.prog 12 #[.int .i64 j, .int .i64 n, .agg Y, .agg Rr, .slice B l d] W fun e w' => e = .returned (.int .i64 (checkP j n y r P')) ∧ Below W.heap.size W w') := Lib.hid fun W B d j n y r P' Y Rr l hB hP' hl hj hn hd hY hRr hy hr => by
    have := prefCheck_any y r hy hr j n hj hn P' hP' B d W hB (by rw [hl]; exact hd.1) (by have := hd.2; unfold maxLen at this; omega)
    rwa [hl, ← hY, ← hRr] at this
  have RC : Hid (∀ W, CkH w CL A ps W → (readAt (.pointer (some ⟨w.heap.size, 2, none⟩))).run Tryd.prog W = .ok (.agg OL) W ∧ (readAt (.pointer (some ⟨w.heap.size, 34, none⟩))).run Tryd.prog W = .ok (.agg NW) W ∧ W.cell? ⟨w.heap.size, 0, none⟩ = some (.int .i64 cm) ∧ W.cell? ⟨w.heap.size, 1, none⟩ = some (.int .i64 cn)) := Lib.hid fun W hW => by
    have h1 := hW.cl
    rw [hCL.out] at h1
    rw [hOL.out, hNW.out]
    exact claim_read hl32.1 hr32.1 h1
  rw [← hpl.out, ← hCL.out]
  clear hA hT hc hcm hps hl32 hr32
  by_cases h80 : 80 < pl
  · have d1 : decide (80 < (pl : Int)) = true := decide_eq_true (by omega)
    have d2 : (80 : Int) < (pl : Int) := by omega
    go_enter Tryd.func4, Tryd.ntmps4
    go_upto_region 1 with fail
    refine world_gen (fun W => Tab W ∧ Below w.heap.size w W) ⟨HT.out.next ((Below.refl _ _).alloc (Nat.le_refl _) _), (Below.refl _ _).alloc (Nat.le_refl _) _⟩ (fun wx HX => ?_)
    have HX := Lib.hid HX
    go_wp2_with (go_at_call 7; (with_reducible refine (proved_any _ HX.out.1).mono ?_); rintro e w1 ⟨rfl, hb⟩; have HB1 := Lib.hid (below_new HX.out.2 hb); clear hb)
    go_ret
    exact ⟨rfl, HB1.out⟩
  have d1 : decide (80 < (pl : Int)) = false := decide_eq_false (by omega)
  have d2 : ¬ (80 : Int) < (pl : Int) := by omega
  have d3 : (pl : Int) ≤ 80 := by omega
  obtain ⟨E1, hE1⟩ : ∃ E, Hid (E = checkP cm cn older newer ps) := ⟨_, Lib.hid rfl⟩
  have C1p : Hid (∀ W, CkH w CL A ps W → Calls Tryd.prog 11 #[.int .i64 cm, .int .i64 cn, .agg OL, .agg NW, .slice A pl c] W fun e w' => e = .returned (.int .i64 E1) ∧ Below W.heap.size W w') := Lib.hid fun W hW => by
    rw [hE1.out]; exact CP.out W A c cm cn older newer ps OL NW pl hW.ps hW.tab HPS.out hpl.out.symm HCI.out HCN.out (by rw [hpl.out]; exact HCA.out) hOL.out hNW.out H32.out.1 H32.out.2
  have C1r : Hid (∀ W, CkH w CL A ps W → Calls Tryd.prog 12 #[.int .i64 cm, .int .i64 cn, .agg OL, .agg NW, .slice A pl c] W fun e w' => e = .returned (.int .i64 E1) ∧ Below W.heap.size W w') := Lib.hid fun W hW => by
    rw [hE1.out]; exact CR.out W A c cm cn older newer ps OL NW pl hW.ps HPS.out hpl.out.symm HCI.out HCN.out (by rw [hpl.out]; exact HCA.out) hOL.out hNW.out H32.out.1 H32.out.2
  have e11 : ((E1 : Int) != E1) = false := by simp
  -- the numbers brought within
  obtain ⟨n, hn⟩ : ∃ n : Nat, Hid (cn % 128 = (n : Int) ∧ n < 128) := ⟨(cn % 128).toNat, Lib.hid ⟨by omega, by omega⟩⟩
  obtain ⟨b, hb⟩ : ∃ b : Nat, Hid (cm % 128 = (b : Int) ∧ b < 128) := ⟨(cm % 128).toNat, Lib.hid ⟨by omega, by omega⟩⟩
  have an : bits .and .i64 cn 127 = (n : Int) := by rw [and_127, hn.out.1]
  have bn : bits .and .i64 cm 127 = (b : Int) := by rw [and_127, hb.out.1]
  have hn2 := hn.out.2
  have hb2 := hb.out.2
  obtain ⟨n1, hn1⟩ : ∃ n1 : Nat, Hid (n1 = n + 1) := ⟨_, Lib.hid rfl⟩
  have en : (n : Int) + 1 = (n1 : Int) := by rw [hn1.out]; omega
  obtain ⟨i, hi⟩ : ∃ i : Nat, Hid ((b : Int).tmod (n1 : Int) = (i : Int) ∧ i < n1) := ⟨b % n1, Lib.hid ⟨by rw [Int.tmod_eq_emod_of_nonneg (by omega)]; simp, Nat.mod_lt _ (by rw [hn1.out]; omega)⟩⟩
  have ei : (b : Int).tmod (n1 : Int) = (i : Int) := hi.out.1
  have hin : i ≤ n := by have := hi.out.2; have := hn1.out; omega
  have z1 : ¬ ((n1 : Int) = 0) := by rw [hn1.out]; omega
  have z2 : ((n1 : Int) == 0) = false := by rw [hn1.out]; simp; omega
  have z3 : ¬ (n1 = 0) := by rw [hn1.out]; omega
  have d6 : (i : Int) ≤ (n : Int) := by omega
  have d7 : (0 : Int) ≤ (i : Int) := by omega
  have hwi : IntKind.i64.wrap (i : Int) = (i : Int) := by rw [IntKind.wrap_i64]; omega
  have hwn : IntKind.i64.wrap (n : Int) = (n : Int) := by rw [IntKind.wrap_i64]; omega
  obtain ⟨sd, hsd⟩ : ∃ sd : Int, Hid (cm % 256 = sd ∧ 0 ≤ sd ∧ sd < 256) := ⟨cm % 256, Lib.hid ⟨rfl, by omega, by omega⟩⟩
  have es : cm % 256 = sd := hsd.out.1
  have es2 : IntKind.u8.wrap cm = sd := by rw [IntKind.wrap_u8]; exact es
  obtain ⟨ls, hls⟩ : ∃ ls, Hid (ls = someM sd n) := ⟨_, Lib.hid rfl⟩
  have hh : hashes ls := by rw [hls.out]; exact someM_hashes sd hsd.out.2 n (by omega)
  have ll : Hid (ls.length = n) := Lib.hid (by rw [hls.out, someM_length])
  have lti : Hid ((ls.take i).length = i) := Lib.hid (by rw [List.length_take, ll.out]; omega)
  have S0 : Hid (∀ W, Calls Tryd.prog 13 #[.int .i64 (n : Int), .int .u8 sd] W fun ev w' => (∃ Al c, ev = .returned (.slice Al n c) ∧ (n ≤ c ∧ c ≤ maxLen) ∧ HW w' Al ls) ∧ Below W.heap.size W w') := Lib.hid fun W => by
    refine (someG_any n (by omega) sd hsd.out.2 W).mono ?_
    rintro ev w' ⟨⟨A, c, he, hc, hA, h0⟩, hb⟩
    exact ⟨⟨A, c, he, hc, by rw [hls.out]; exact hA⟩, hb⟩
  obtain ⟨x, hx⟩ : ∃ x, Hid (x = rootL (ls.take i)) := ⟨_, Lib.hid rfl⟩
  obtain ⟨rt, hrt⟩ : ∃ r, Hid (r = rootL ls) := ⟨_, Lib.hid rfl⟩
  have hx32 : Hid (x.length = 32 ∧ bytes x) := Lib.hid (by rw [hx.out]; exact rootL_is _ (hashes_take hh i))
  have hrt32 : Hid (rt.length = 32 ∧ bytes rt) := Lib.hid (by rw [hrt.out]; exact rootL_is _ hh)
  obtain ⟨R, hR⟩ : ∃ R, Hid (R = nums .u8 rt) := ⟨_, Lib.hid rfl⟩
  obtain ⟨X, hX⟩ : ∃ X, Hid (X = nums .u8 x) := ⟨_, Lib.hid rfl⟩
  have zR : Hid (R.size = 32) := Lib.hid (by rw [hR.out, nums_size]; exact hrt32.out.1)
  have oR : Hid (R.all (·.oneCell') = true) := Lib.hid (by rw [hR.out]; exact nums_one _ _)
  have zX : Hid (X.size = 32) := Lib.hid (by rw [hX.out, nums_size]; exact hx32.out.1)
  have oX : Hid (X.all (·.oneCell') = true) := Lib.hid (by rw [hX.out]; exact nums_one _ _)
  obtain ⟨P, hP⟩ : ∃ P, Hid (P = proofL ls i) := ⟨_, Lib.hid rfl⟩
  obtain ⟨q, hq⟩ : ∃ q, Hid (q = P.length) := ⟨_, Lib.hid rfl⟩
  have hPh : Hid (hashes P) := Lib.hid (by rw [hP.out]; exact proofL_hashes i hh)
  have hq9 : q ≤ 13 := by rw [hq.out, hP.out]; exact proofL_length 12 ls i (by rw [ll.out]; omega)
  have hwq : IntKind.i64.wrap (q : Int) = (q : Int) := by rw [IntKind.wrap_i64]; omega
  have KF : Hid (checkP (i : Int) (n : Int) x rt P = 0) := Lib.hid (by
    have := checkP_proof (ls := ls) (m := i) (by rw [ll.out]; exact hin) (by rw [ll.out]; omega)
    rw [ll.out, ← hP.out, ← hx.out, ← hrt.out] at this; exact this)
  have RR : Hid (∀ W Al c, HW W Al ls → Tab W → Calls Tryd.prog 14 #[.slice Al n c] W fun ev w' => ev = .returned (.agg R) ∧ Below W.heap.size W w') := Lib.hid fun W Al c h1 h2 => by
    have := root_any ls hh Al c W h1 h2 (by rw [ll.out]; omega)
    rwa [ll.out, ← hrt.out, ← hR.out] at this
  have RA : Hid (∀ W Al c, HW W Al ls → Tab W → Calls Tryd.prog 14 #[.slice Al i c] W fun ev w' => ev = .returned (.agg X) ∧ Below W.heap.size W w') := Lib.hid fun W Al c h1 h2 => by
    have := root_any (ls.take i) (hashes_take hh i) Al c W (HL.take h1 i) h2 (by rw [lti.out]; omega)
    rwa [lti.out, ← hx.out, ← hX.out] at this
  have PP : Hid (∀ W Al c, HW W Al ls → (n ≤ c ∧ c ≤ maxLen) → Calls Tryd.prog 9 #[.slice Al n c, .int .i64 (i : Int)] W fun e w' => ∃ A' c', e = .returned (.tuple #[.slice A' q c', .int .i64 0]) ∧ (q ≤ c' ∧ c' ≤ maxLen) ∧ HW w' A' P ∧ Below W.heap.size W w') := Lib.hid fun W Al c h1 h3 => by
    have := refProof_any ls hh Al c W h1 (by rw [ll.out]; exact h3.1) h3.2 (i : Int)
    rw [proofF_ok (by rw [ll.out]; exact hin), ← hP.out, ll.out] at this
    refine this.mono ?_
    rintro e w' ⟨A', c', he, h4, h5, h6, h7⟩
    exact ⟨A', c', by rw [hq.out]; exact he, ⟨by rw [hq.out]; exact h4, h5⟩, h6, h7⟩
  have HHs := Lib.hid hh
  have hinI : -9223372036854775808 ≤ (i : Int) ∧ (i : Int) ≤ 9223372036854775807 := by omega
  have hnnI : -9223372036854775808 ≤ (n : Int) ∧ (n : Int) ≤ 9223372036854775807 := by omega
  have HIN := Lib.hid (And.intro hinI hnnI)
  clear hh hcm64 hcn hinI hnnI
  go_enter Tryd.func4, Tryd.ntmps4
  go_upto_region 1 with fail
  refine world_gen (fun W => Row W w.heap.size 32 CL ∧ Below w.heap.size w W) ⟨Row.made _ _ _, (Below.refl _ _).alloc (Nat.le_refl _) _⟩ (fun w3 HX => ?_)
  have HCk : Hid (CkH w CL A ps w3) := Lib.hid ⟨HX.1, HAw.out.next HX.2, HT.out.next HX.2, HX.2⟩
  clear HX
  go_upto_region 3 with fail
  refine wp_region_fk (Below w3.heap.size w3) (.get 0 (.get 1 (.get 2 (.get 3 (.get 4 (.get 5 (.get 6 (.get 7 (.get 8 (.get 10 (.get 11 (.get 12 (.get 13 (.get 14 (.get 15 (.get 16 (.get 17 (.get 18 (.call 9 (.call 19 (.get 20 .done))))))))))))))))))))) (by kernel_rfl) rfl (by kernel_rfl) (by kernel_rfl) (by intro c a d v w h; cases d <;> exact h) (Below.refl w3.heap.size w3).drew (fun Q' hQ => ?_)
  have HS := Lib.hid (Below.refl w3.heap.size w3).drew
  have HQ := Lib.hid hQ
  clear hQ
  refine wpFk_get rfl (by rfl) (fun K hK => ?_)
  refine ⟨?_, fun w' hS' => ?_, ?_⟩
  rotate_left
  · go_simp
    try (with_reducible rfl)
  try go_simp
  refine hK _ ?_
  clear hK K
  refine wpFk_get rfl (by rfl) (fun K hK => ?_)
  refine ⟨?_, fun w' hS' => ?_, ?_⟩
  rotate_left
  · have c0 := (RC.out _ (HCk.out.next hS')).2.2.1
    go_simp
    try (with_reducible rfl)
  try go_simp
  refine hK _ ?_
  clear hK K
  refine wpFk_get rfl (by rfl) (fun K hK => ?_)
  refine ⟨?_, fun w' hS' => ?_, ?_⟩
  rotate_left
  · go_simp
    try (with_reducible rfl)
  try go_simp
  refine hK _ ?_
  clear hK K
  refine wpFk_get rfl (by rfl) (fun K hK => ?_)
  refine ⟨?_, fun w' hS' => ?_, ?_⟩
  rotate_left
  · have c1 := (RC.out _ (HCk.out.next hS')).2.2.2
    go_simp
    try (with_reducible rfl)
  try go_simp
  refine hK _ ?_
  clear hK K
  refine wpFk_get rfl (by rfl) (fun K hK => ?_)
  refine ⟨?_, fun w' hS' => ?_, ?_⟩
  rotate_left
  · go_simp
    try (with_reducible rfl)
  try go_simp
  refine hK _ ?_
  clear hK K
  refine wpFk_get rfl (by rfl) (fun K hK => ?_)
  refine ⟨_, fun w' hS' => get_load rfl rfl (RC.out _ (HCk.out.next hS')).1, ?_⟩
  try go_simp
  refine hK _ ?_
  clear hK K
  refine wpFk_get rfl (by rfl) (fun K hK => ?_)
  refine ⟨?_, fun w' hS' => ?_, ?_⟩
  rotate_left
  · go_simp
    try (with_reducible rfl)
  try go_simp
  refine hK _ ?_
  clear hK K
  refine wpFk_get rfl (by rfl) (fun K hK => ?_)
  refine ⟨_, fun w' hS' => get_load rfl rfl (RC.out _ (HCk.out.next hS')).2.1, ?_⟩
  try go_simp
  refine hK _ ?_
  clear hK K
  refine wpFk_get rfl (by rfl) (fun K hK => ?_)
  refine ⟨?_, fun w' hS' => ?_, ?_⟩
  rotate_left
  · go_simp
    try (with_reducible rfl)
  try go_simp
  refine hK _ ?_
  clear hK K
  refine wpFk_get rfl (by rfl) (fun K hK => ?_)
  refine ⟨?_, fun w' hS' => ?_, ?_⟩
  rotate_left
  · go_simp
    try (with_reducible rfl)
  try go_simp
  refine hK _ ?_
  clear hK K
  refine wpFk_get rfl (by rfl) (fun K hK => ?_)
  refine ⟨?_, fun w' hS' => ?_, ?_⟩
  rotate_left
  · have c0 := (RC.out _ (HCk.out.next hS')).2.2.1
    go_simp
    try (with_reducible rfl)
  try go_simp
  refine hK _ ?_
  clear hK K
  refine wpFk_get rfl (by rfl) (fun K hK => ?_)
  refine ⟨?_, fun w' hS' => ?_, ?_⟩
  rotate_left
  · go_simp
    try (with_reducible rfl)
  try go_simp
  refine hK _ ?_
  clear hK K
  refine wpFk_get rfl (by rfl) (fun K hK => ?_)
  refine ⟨?_, fun w' hS' => ?_, ?_⟩
  rotate_left
  · have c1 := (RC.out _ (HCk.out.next hS')).2.2.2
    go_simp
    try (with_reducible rfl)
  try go_simp
  refine hK _ ?_
  clear hK K
  refine wpFk_get rfl (by rfl) (fun K hK => ?_)
  refine ⟨?_, fun w' hS' => ?_, ?_⟩
  rotate_left
  · go_simp
    try (with_reducible rfl)
  try go_simp
  refine hK _ ?_
  clear hK K
  refine wpFk_get rfl (by rfl) (fun K hK => ?_)
  refine ⟨_, fun w' hS' => get_load rfl rfl (RC.out _ (HCk.out.next hS')).1, ?_⟩
  try go_simp
  refine hK _ ?_
  clear hK K
  refine wpFk_get rfl (by rfl) (fun K hK => ?_)
  refine ⟨?_, fun w' hS' => ?_, ?_⟩
  rotate_left
  · go_simp
    try (with_reducible rfl)
  try go_simp
  refine hK _ ?_
  clear hK K
  refine wpFk_get rfl (by rfl) (fun K hK => ?_)
  refine ⟨_, fun w' hS' => get_load rfl rfl (RC.out _ (HCk.out.next hS')).2.1, ?_⟩
  try go_simp
  refine hK _ ?_
  clear hK K
  refine wpFk_get rfl (by rfl) (fun K hK => ?_)
  refine ⟨?_, fun w' hS' => ?_, ?_⟩
  rotate_left
  · go_simp
    try (with_reducible rfl)
  try go_simp
  refine hK _ ?_
  clear hK K
  refine wpFk_call rfl (by rfl) (fun K hK => ?_)
  go_simp
  go_at_call 11
  refine (C1p.out _ (HCk.out.next HS.out)).mono ?_
  rintro e w2x ⟨rfl, hb⟩
  replace HS := Lib.hid (below_new HS.out hb)
  clear hb
  refine hK _ _ HS.out ?_
  clear hK K
  refine wpFk_call rfl (by rfl) (fun K hK => ?_)
  go_simp
  go_at_call 12
  refine (C1r.out _ (HCk.out.next HS.out)).mono ?_
  rintro e w2x ⟨rfl, hb⟩
  replace HS := Lib.hid (below_new HS.out hb)
  clear hb
  refine hK _ _ HS.out ?_
  clear hK K
  refine wpFk_get rfl (by rfl) (fun K hK => ?_)
  refine ⟨?_, fun w' hS' => ?_, ?_⟩
  rotate_left
  · go_simp
    try (with_reducible rfl)
  try go_simp
  refine hK _ ?_
  clear hK K
  refine wpFk_done ?_
  refine HQ.out _ _ ?_
  go_upto_region 5 with fail
  refine world_gen (fun W => CkH w CL A ps W) (HCk.out.next HS.out) (fun w5 HX => ?_)
  have HCk := Lib.hid HX
  clear HS HQ HX C1p C1r e11
  have c0 := (RC.out _ HCk.out).2.2.1
  have c1 := (RC.out _ HCk.out).2.2.2
  go_upto_region 8 with (go_at_call 13; (with_reducible refine (S0.out _).mono ?_); rintro e w6 ⟨⟨Al, c2, rfl, hc2, hA⟩, hb⟩; have H6 : Hid (CkH w CL A ps w6 ∧ HW w6 Al ls) := Lib.hid ⟨HCk.out.next hb, hA⟩; have HC2 := Lib.hid hc2; clear hb hA hc2 c0 c1)
  clear S0 HCk
  have hc21 : n ≤ c2 := HC2.out.1
  have hc22 : (i : Int) ≤ (c2 : Int) := by omega
  have H62 := Lib.hid H6.out.2
  go_upto_region 9 with (go_at_call 9; (with_reducible refine (PP.out _ _ _ H62.out HC2.out).mono ?_); rintro e w7 ⟨Ap, cp, rfl, hcp, hA, hb⟩; have H7 : Hid (CkH w CL A ps w7 ∧ HW w7 Al ls ∧ HW w7 Ap P) := Lib.hid ⟨H6.out.1.next hb, H62.out.next hb, hA⟩; have HCP := Lib.hid hcp; clear hb hA hcp)
  have H7a := Lib.hid H7.out.2.1
  have H7t := Lib.hid H7.out.1.tab
  go_upto_region 10 with (first
    | (go_at_call 14; (with_reducible refine (RR.out _ _ _ H8a.out H8t.out).mono ?_); rintro e w9 ⟨rfl, hb⟩; obtain ⟨w10, w11, s10, s11, hr10, hr11, hb11, hz11⟩ := made_two w9 X R zX.out oX.out zR.out oR.out; have H11 : Hid (CxH w CL A ps w9.heap.size X R Al Ap ls P w11) := Lib.hid ⟨(H8.out.1.next hb).next hb11, hr10, hr11, (H8a.out.next hb).next hb11, (H8.out.2.2.next hb).next hb11⟩; clear hr10 hr11 hb11 hz11 hb)
    | (go_at_call 14; (with_reducible refine (RA.out _ _ _ H7a.out H7t.out).mono ?_); rintro e w8 ⟨rfl, hb⟩; have H8 : Hid (CkH w CL A ps w8 ∧ HW w8 Al ls ∧ HW w8 Ap P) := Lib.hid ⟨H7.out.1.next hb, H7a.out.next hb, H7.out.2.2.next hb⟩; have H8a := Lib.hid H8.out.2.1; have H8t := Lib.hid H8.out.1.tab; clear hb))
  clear s10 s11 H6 H62 H7 H7a H7t H8 H8a H8t RR RA PP
  obtain ⟨g10, hg10⟩ : ∃ g10, w9.heap.size = g10 := ⟨_, rfl⟩
  rw [hg10] at H11 ⊢
  clear hg10
  have hcp1 : cp ≤ 9223372036854775807 := by have := HCP.out.2; unfold maxLen at this; omega
  have hcp2 : q ≤ cp := HCP.out.1
  obtain ⟨E5, hE5⟩ : ∃ E, Hid (E = checkP (i : Int) (n : Int) older rt P) := ⟨_, Lib.hid rfl⟩
  obtain ⟨E6, hE6⟩ : ∃ E, Hid (E = checkP (i : Int) (n : Int) x newer P) := ⟨_, Lib.hid rfl⟩
  obtain ⟨E7, hE7⟩ : ∃ E, Hid (E = checkP (i : Int) (n : Int) x rt ps) := ⟨_, Lib.hid rfl⟩
  have C4p : Hid (∀ W, CxH w CL A ps g10 X R Al Ap ls P W → Calls Tryd.prog 11 #[.int .i64 (i : Int), .int .i64 (n : Int), .agg X, .agg R, .slice Ap q cp] W fun e w' => e = .returned (.int .i64 0) ∧ Below W.heap.size W w') := Lib.hid fun W hW => by
    have := CP.out W Ap cp (i : Int) (n : Int) x rt P X R q hW.path hW.ck.tab hPh.out hq.out.symm HIN.out.1 HIN.out.2 HCP.out hX.out hR.out hx32.out hrt32.out
    rwa [KF.out] at this
  have C5p : Hid (∀ W, CxH w CL A ps g10 X R Al Ap ls P W → Calls Tryd.prog 11 #[.int .i64 (i : Int), .int .i64 (n : Int), .agg OL, .agg R, .slice Ap q cp] W fun e w' => e = .returned (.int .i64 E5) ∧ Below W.heap.size W w') := Lib.hid fun W hW => by
    rw [hE5.out]; exact CP.out W Ap cp (i : Int) (n : Int) older rt P OL R q hW.path hW.ck.tab hPh.out hq.out.symm HIN.out.1 HIN.out.2 HCP.out hOL.out hR.out H32.out.1 hrt32.out
  have C5r : Hid (∀ W, CxH w CL A ps g10 X R Al Ap ls P W → Calls Tryd.prog 12 #[.int .i64 (i : Int), .int .i64 (n : Int), .agg OL, .agg R, .slice Ap q cp] W fun e w' => e = .returned (.int .i64 E5) ∧ Below W.heap.size W w') := Lib.hid fun W hW => by
    rw [hE5.out]; exact CR.out W Ap cp (i : Int) (n : Int) older rt P OL R q hW.path hPh.out hq.out.symm HIN.out.1 HIN.out.2 HCP.out hOL.out hR.out H32.out.1 hrt32.out
  have C6p : Hid (∀ W, CxH w CL A ps g10 X R Al Ap ls P W → Calls Tryd.prog 11 #[.int .i64 (i : Int), .int .i64 (n : Int), .agg X, .agg NW, .slice Ap q cp] W fun e w' => e = .returned (.int .i64 E6) ∧ Below W.heap.size W w') := Lib.hid fun W hW => by
    rw [hE6.out]; exact CP.out W Ap cp (i : Int) (n : Int) x newer P X NW q hW.path hW.ck.tab hPh.out hq.out.symm HIN.out.1 HIN.out.2 HCP.out hX.out hNW.out hx32.out H32.out.2
  have C6r : Hid (∀ W, CxH w CL A ps g10 X R Al Ap ls P W → Calls Tryd.prog 12 #[.int .i64 (i : Int), .int .i64 (n : Int), .agg X, .agg NW, .slice Ap q cp] W fun e w' => e = .returned (.int .i64 E6) ∧ Below W.heap.size W w') := Lib.hid fun W hW => by
    rw [hE6.out]; exact CR.out W Ap cp (i : Int) (n : Int) x newer P X NW q hW.path hPh.out hq.out.symm HIN.out.1 HIN.out.2 HCP.out hX.out hNW.out hx32.out H32.out.2
  have C7p : Hid (∀ W, CxH w CL A ps g10 X R Al Ap ls P W → Calls Tryd.prog 11 #[.int .i64 (i : Int), .int .i64 (n : Int), .agg X, .agg R, .slice A pl c] W fun e w' => e = .returned (.int .i64 E7) ∧ Below W.heap.size W w') := Lib.hid fun W hW => by
    rw [hE7.out]; exact CP.out W A c (i : Int) (n : Int) x rt ps X R pl hW.ck.ps hW.ck.tab HPS.out hpl.out.symm HIN.out.1 HIN.out.2 (by rw [hpl.out]; exact HCA.out) hX.out hR.out hx32.out hrt32.out
  have C7r : Hid (∀ W, CxH w CL A ps g10 X R Al Ap ls P W → Calls Tryd.prog 12 #[.int .i64 (i : Int), .int .i64 (n : Int), .agg X, .agg R, .slice A pl c] W fun e w' => e = .returned (.int .i64 E7) ∧ Below W.heap.size W w') := Lib.hid fun W hW => by
    rw [hE7.out]; exact CR.out W A c (i : Int) (n : Int) x rt ps X R pl hW.ck.ps HPS.out hpl.out.symm HIN.out.1 HIN.out.2 (by rw [hpl.out]; exact HCA.out) hX.out hR.out hx32.out hrt32.out
  have e55 : ((E5 : Int) != E5) = false := by simp
  have e66 : ((E6 : Int) != E6) = false := by simp
  have e77 : ((E7 : Int) != E7) = false := by simp
  have HOt := H11
  clear H11
  refine wp_region_fk (Below w11.heap.size w11) (.get 0 (.get 1 (.get 2 (.get 3 (.get 4 (.call 5 (.get 6 (.get 7 (.get 8 (.get 9 (.get 10 (.get 11 (.get 12 (.get 13 (.get 15 (.get 16 (.get 17 (.get 18 (.get 19 (.get 20 (.call 14 (.call 21 (.get 22 (.get 23 (.get 24 (.get 25 (.get 26 (.get 27 (.get 28 (.get 29 (.get 30 (.get 32 (.get 33 (.get 34 (.get 35 (.get 36 (.get 37 (.call 31 (.call 38 (.get 39 (.get 40 (.get 41 (.get 42 (.get 43 (.get 44 (.get 45 (.get 46 (.get 48 (.get 49 (.get 50 (.get 51 (.get 52 (.call 47 (.call 53 (.get 54 (.get 55 .done)))))))))))))))))))))))))))))))))))))))))))))))))))))))) (by kernel_rfl) rfl (by kernel_rfl) (by kernel_rfl) (by intro c a d v w h; cases d <;> exact h) (Below.refl w11.heap.size w11).drew (fun Q' hQ => ?_)
  have HS := Lib.hid (Below.refl w11.heap.size w11).drew
  have HQ := Lib.hid hQ
  clear hQ
  refine wpFk_get rfl (by rfl) (fun K hK => ?_)
  refine ⟨?_, fun w' hS' => ?_, ?_⟩
  rotate_left
  · go_simp
    try (with_reducible rfl)
  try go_simp
  refine hK _ ?_
  clear hK K
  refine wpFk_get rfl (by rfl) (fun K hK => ?_)
  refine ⟨?_, fun w' hS' => ?_, ?_⟩
  rotate_left
  · go_simp
    try (with_reducible rfl)
  try go_simp
  refine hK _ ?_
  clear hK K
  refine wpFk_get rfl (by rfl) (fun K hK => ?_)
  refine ⟨_, fun w' hS' => get_load rfl rfl ((HOt.out.next hS').o.read zX.out), ?_⟩
  try go_simp
  refine hK _ ?_
  clear hK K
  refine wpFk_get rfl (by rfl) (fun K hK => ?_)
  refine ⟨_, fun w' hS' => get_load rfl rfl ((HOt.out.next hS').rt.read zR.out), ?_⟩
  try go_simp
  refine hK _ ?_
  clear hK K
  refine wpFk_get rfl (by rfl) (fun K hK => ?_)
  refine ⟨?_, fun w' hS' => ?_, ?_⟩
  rotate_left
  · go_simp
    try (with_reducible rfl)
  try go_simp
  refine hK _ ?_
  clear hK K
  refine wpFk_call rfl (by rfl) (fun K hK => ?_)
  go_simp
  go_at_call 11
  refine (C4p.out _ (HOt.out.next HS.out)).mono ?_
  rintro e w2x ⟨rfl, hb⟩
  replace HS := Lib.hid (below_new HS.out hb)
  clear hb
  refine hK _ _ HS.out ?_
  clear hK K
  refine wpFk_get rfl (by rfl) (fun K hK => ?_)
  refine ⟨?_, fun w' hS' => ?_, ?_⟩
  rotate_left
  · go_simp
    try (with_reducible rfl)
  try go_simp
  refine hK _ ?_
  clear hK K
  refine wpFk_get rfl (by rfl) (fun K hK => ?_)
  refine ⟨?_, fun w' hS' => ?_, ?_⟩
  rotate_left
  · go_simp
    try (with_reducible rfl)
  try go_simp
  refine hK _ ?_
  clear hK K
  refine wpFk_get rfl (by rfl) (fun K hK => ?_)
  refine ⟨?_, fun w' hS' => ?_, ?_⟩
  rotate_left
  · go_simp
    try (with_reducible rfl)
  try go_simp
  refine hK _ ?_
  clear hK K
  refine wpFk_get rfl (by rfl) (fun K hK => ?_)
  refine ⟨?_, fun w' hS' => ?_, ?_⟩
  rotate_left
  · go_simp
    try (with_reducible rfl)
  try go_simp
  refine hK _ ?_
  clear hK K
  refine wpFk_get rfl (by rfl) (fun K hK => ?_)
  refine ⟨?_, fun w' hS' => ?_, ?_⟩
  rotate_left
  · go_simp
    try (with_reducible rfl)
  try go_simp
  refine hK _ ?_
  clear hK K
  refine wpFk_get rfl (by rfl) (fun K hK => ?_)
  refine ⟨_, fun w' hS' => get_load rfl rfl (RC.out _ (HOt.out.next hS').ck).1, ?_⟩
  try go_simp
  refine hK _ ?_
  clear hK K
  refine wpFk_get rfl (by rfl) (fun K hK => ?_)
  refine ⟨_, fun w' hS' => get_load rfl rfl ((HOt.out.next hS').rt.read zR.out), ?_⟩
  try go_simp
  refine hK _ ?_
  clear hK K
  refine wpFk_get rfl (by rfl) (fun K hK => ?_)
  refine ⟨?_, fun w' hS' => ?_, ?_⟩
  rotate_left
  · go_simp
    try (with_reducible rfl)
  try go_simp
  refine hK _ ?_
  clear hK K
  refine wpFk_get rfl (by rfl) (fun K hK => ?_)
  refine ⟨?_, fun w' hS' => ?_, ?_⟩
  rotate_left
  · go_simp
    try (with_reducible rfl)
  try go_simp
  refine hK _ ?_
  clear hK K
  refine wpFk_get rfl (by rfl) (fun K hK => ?_)
  refine ⟨?_, fun w' hS' => ?_, ?_⟩
  rotate_left
  · go_simp
    try (with_reducible rfl)
  try go_simp
  refine hK _ ?_
  clear hK K
  refine wpFk_get rfl (by rfl) (fun K hK => ?_)
  refine ⟨?_, fun w' hS' => ?_, ?_⟩
  rotate_left
  · go_simp
    try (with_reducible rfl)
  try go_simp
  refine hK _ ?_
  clear hK K
  refine wpFk_get rfl (by rfl) (fun K hK => ?_)
  refine ⟨_, fun w' hS' => get_load rfl rfl (RC.out _ (HOt.out.next hS').ck).1, ?_⟩
  try go_simp
  refine hK _ ?_
  clear hK K
  refine wpFk_get rfl (by rfl) (fun K hK => ?_)
  refine ⟨_, fun w' hS' => get_load rfl rfl ((HOt.out.next hS').rt.read zR.out), ?_⟩
  try go_simp
  refine hK _ ?_
  clear hK K
  refine wpFk_get rfl (by rfl) (fun K hK => ?_)
  refine ⟨?_, fun w' hS' => ?_, ?_⟩
  rotate_left
  · go_simp
    try (with_reducible rfl)
  try go_simp
  refine hK _ ?_
  clear hK K
  refine wpFk_call rfl (by rfl) (fun K hK => ?_)
  go_simp
  go_at_call 11
  refine (C5p.out _ (HOt.out.next HS.out)).mono ?_
  rintro e w2x ⟨rfl, hb⟩
  replace HS := Lib.hid (below_new HS.out hb)
  clear hb
  refine hK _ _ HS.out ?_
  clear hK K
  refine wpFk_call rfl (by rfl) (fun K hK => ?_)
  go_simp
  go_at_call 12
  refine (C5r.out _ (HOt.out.next HS.out)).mono ?_
  rintro e w2x ⟨rfl, hb⟩
  replace HS := Lib.hid (below_new HS.out hb)
  clear hb
  refine hK _ _ HS.out ?_
  clear hK K
  refine wpFk_get rfl (by rfl) (fun K hK => ?_)
  refine ⟨?_, fun w' hS' => ?_, ?_⟩
  rotate_left
  · go_simp
    try (with_reducible rfl)
  try go_simp
  refine hK _ ?_
  clear hK K
  refine wpFk_get rfl (by rfl) (fun K hK => ?_)
  refine ⟨?_, fun w' hS' => ?_, ?_⟩
  rotate_left
  · go_simp
    try (with_reducible rfl)
  try go_simp
  refine hK _ ?_
  clear hK K
  refine wpFk_get rfl (by rfl) (fun K hK => ?_)
  refine ⟨?_, fun w' hS' => ?_, ?_⟩
  rotate_left
  · go_simp
    try (with_reducible rfl)
  try go_simp
  refine hK _ ?_
  clear hK K
  refine wpFk_get rfl (by rfl) (fun K hK => ?_)
  refine ⟨?_, fun w' hS' => ?_, ?_⟩
  rotate_left
  · go_simp
    try (with_reducible rfl)
  try go_simp
  refine hK _ ?_
  clear hK K
  refine wpFk_get rfl (by rfl) (fun K hK => ?_)
  refine ⟨?_, fun w' hS' => ?_, ?_⟩
  rotate_left
  · go_simp
    try (with_reducible rfl)
  try go_simp
  refine hK _ ?_
  clear hK K
  refine wpFk_get rfl (by rfl) (fun K hK => ?_)
  refine ⟨_, fun w' hS' => get_load rfl rfl ((HOt.out.next hS').o.read zX.out), ?_⟩
  try go_simp
  refine hK _ ?_
  clear hK K
  refine wpFk_get rfl (by rfl) (fun K hK => ?_)
  refine ⟨?_, fun w' hS' => ?_, ?_⟩
  rotate_left
  · go_simp
    try (with_reducible rfl)
  try go_simp
  refine hK _ ?_
  clear hK K
  refine wpFk_get rfl (by rfl) (fun K hK => ?_)
  refine ⟨_, fun w' hS' => get_load rfl rfl (RC.out _ (HOt.out.next hS').ck).2.1, ?_⟩
  try go_simp
  refine hK _ ?_
  clear hK K
  refine wpFk_get rfl (by rfl) (fun K hK => ?_)
  refine ⟨?_, fun w' hS' => ?_, ?_⟩
  rotate_left
  · go_simp
    try (with_reducible rfl)
  try go_simp
  refine hK _ ?_
  clear hK K
  refine wpFk_get rfl (by rfl) (fun K hK => ?_)
  refine ⟨?_, fun w' hS' => ?_, ?_⟩
  rotate_left
  · go_simp
    try (with_reducible rfl)
  try go_simp
  refine hK _ ?_
  clear hK K
  refine wpFk_get rfl (by rfl) (fun K hK => ?_)
  refine ⟨?_, fun w' hS' => ?_, ?_⟩
  rotate_left
  · go_simp
    try (with_reducible rfl)
  try go_simp
  refine hK _ ?_
  clear hK K
  refine wpFk_get rfl (by rfl) (fun K hK => ?_)
  refine ⟨_, fun w' hS' => get_load rfl rfl ((HOt.out.next hS').o.read zX.out), ?_⟩
  try go_simp
  refine hK _ ?_
  clear hK K
  refine wpFk_get rfl (by rfl) (fun K hK => ?_)
  refine ⟨?_, fun w' hS' => ?_, ?_⟩
  rotate_left
  · go_simp
    try (with_reducible rfl)
  try go_simp
  refine hK _ ?_
  clear hK K
  refine wpFk_get rfl (by rfl) (fun K hK => ?_)
  refine ⟨_, fun w' hS' => get_load rfl rfl (RC.out _ (HOt.out.next hS').ck).2.1, ?_⟩
  try go_simp
  refine hK _ ?_
  clear hK K
  refine wpFk_get rfl (by rfl) (fun K hK => ?_)
  refine ⟨?_, fun w' hS' => ?_, ?_⟩
  rotate_left
  · go_simp
    try (with_reducible rfl)
  try go_simp
  refine hK _ ?_
  clear hK K
  refine wpFk_call rfl (by rfl) (fun K hK => ?_)
  go_simp
  go_at_call 11
  refine (C6p.out _ (HOt.out.next HS.out)).mono ?_
  rintro e w2x ⟨rfl, hb⟩
  replace HS := Lib.hid (below_new HS.out hb)
  clear hb
  refine hK _ _ HS.out ?_
  clear hK K
  refine wpFk_call rfl (by rfl) (fun K hK => ?_)
  go_simp
  go_at_call 12
  refine (C6r.out _ (HOt.out.next HS.out)).mono ?_
  rintro e w2x ⟨rfl, hb⟩
  replace HS := Lib.hid (below_new HS.out hb)
  clear hb
  refine hK _ _ HS.out ?_
  clear hK K
  refine wpFk_get rfl (by rfl) (fun K hK => ?_)
  refine ⟨?_, fun w' hS' => ?_, ?_⟩
  rotate_left
  · go_simp
    try (with_reducible rfl)
  try go_simp
  refine hK _ ?_
  clear hK K
  refine wpFk_get rfl (by rfl) (fun K hK => ?_)
  refine ⟨?_, fun w' hS' => ?_, ?_⟩
  rotate_left
  · go_simp
    try (with_reducible rfl)
  try go_simp
  refine hK _ ?_
  clear hK K
  refine wpFk_get rfl (by rfl) (fun K hK => ?_)
  refine ⟨?_, fun w' hS' => ?_, ?_⟩
  rotate_left
  · go_simp
    try (with_reducible rfl)
  try go_simp
  refine hK _ ?_
  clear hK K
  refine wpFk_get rfl (by rfl) (fun K hK => ?_)
  refine ⟨?_, fun w' hS' => ?_, ?_⟩
  rotate_left
  · go_simp
    try (with_reducible rfl)
  try go_simp
  refine hK _ ?_
  clear hK K
  refine wpFk_get rfl (by rfl) (fun K hK => ?_)
  refine ⟨?_, fun w' hS' => ?_, ?_⟩
  rotate_left
  · go_simp
    try (with_reducible rfl)
  try go_simp
  refine hK _ ?_
  clear hK K
  refine wpFk_get rfl (by rfl) (fun K hK => ?_)
  refine ⟨_, fun w' hS' => get_load rfl rfl ((HOt.out.next hS').o.read zX.out), ?_⟩
  try go_simp
  refine hK _ ?_
  clear hK K
  refine wpFk_get rfl (by rfl) (fun K hK => ?_)
  refine ⟨_, fun w' hS' => get_load rfl rfl ((HOt.out.next hS').rt.read zR.out), ?_⟩
  try go_simp
  refine hK _ ?_
  clear hK K
  refine wpFk_get rfl (by rfl) (fun K hK => ?_)
  refine ⟨?_, fun w' hS' => ?_, ?_⟩
  rotate_left
  · go_simp
    try (with_reducible rfl)
  try go_simp
  refine hK _ ?_
  clear hK K
  refine wpFk_get rfl (by rfl) (fun K hK => ?_)
  refine ⟨?_, fun w' hS' => ?_, ?_⟩
  rotate_left
  · go_simp
    try (with_reducible rfl)
  try go_simp
  refine hK _ ?_
  clear hK K
  refine wpFk_get rfl (by rfl) (fun K hK => ?_)
  refine ⟨?_, fun w' hS' => ?_, ?_⟩
  rotate_left
  · go_simp
    try (with_reducible rfl)
  try go_simp
  refine hK _ ?_
  clear hK K
  refine wpFk_get rfl (by rfl) (fun K hK => ?_)
  refine ⟨_, fun w' hS' => get_load rfl rfl ((HOt.out.next hS').o.read zX.out), ?_⟩
  try go_simp
  refine hK _ ?_
  clear hK K
  refine wpFk_get rfl (by rfl) (fun K hK => ?_)
  refine ⟨_, fun w' hS' => get_load rfl rfl ((HOt.out.next hS').rt.read zR.out), ?_⟩
  try go_simp
  refine hK _ ?_
  clear hK K
  refine wpFk_get rfl (by rfl) (fun K hK => ?_)
  refine ⟨?_, fun w' hS' => ?_, ?_⟩
  rotate_left
  · go_simp
    try (with_reducible rfl)
  try go_simp
  refine hK _ ?_
  clear hK K
  refine wpFk_call rfl (by rfl) (fun K hK => ?_)
  go_simp
  go_at_call 11
  refine (C7p.out _ (HOt.out.next HS.out)).mono ?_
  rintro e w2x ⟨rfl, hb⟩
  replace HS := Lib.hid (below_new HS.out hb)
  clear hb
  refine hK _ _ HS.out ?_
  clear hK K
  refine wpFk_call rfl (by rfl) (fun K hK => ?_)
  go_simp
  go_at_call 12
  refine (C7r.out _ (HOt.out.next HS.out)).mono ?_
  rintro e w2x ⟨rfl, hb⟩
  replace HS := Lib.hid (below_new HS.out hb)
  clear hb
  refine hK _ _ HS.out ?_
  clear hK K
  refine wpFk_get rfl (by rfl) (fun K hK => ?_)
  refine ⟨?_, fun w' hS' => ?_, ?_⟩
  rotate_left
  · go_simp
    try (with_reducible rfl)
  try go_simp
  refine hK _ ?_
  clear hK K
  refine wpFk_get rfl (by rfl) (fun K hK => ?_)
  refine ⟨?_, fun w' hS' => ?_, ?_⟩
  rotate_left
  · go_simp
    try (with_reducible rfl)
  try go_simp
  refine hK _ ?_
  clear hK K
  refine wpFk_done ?_
  refine HQ.out _ _ ?_
  go_wp2
  have H9 := Lib.hid (HOt.out.next HS.out)
  clear HOt HS HQ C4p C5p C5r C6p C6r C7p C7r e55 e66 e77
  go_loopw [12] (fun s12 wr => ∃ k : Nat, s12 = .int .i64 (k : Int) ∧ k ≤ q ∧ Hid (CxH w CL A ps g10 X R Al Ap ls P wr)) (fun s12 _ => (q - intOf s12).toNat)
  case atStart => exact ⟨0, rfl, by omega, H9⟩
  case round =>
    clear H9
    obtain ⟨k, rfl, hkq, HO⟩ := hrel
    by_cases hlt : k < q
    · have d8 : (k : Int) < (q : Int) := by omega
      have hkl : k < P.length := by rw [← hq.out]; exact hlt
      have hwk : IntKind.i64.wrap (k : Int) = (k : Int) := by rw [IntKind.wrap_i64]; omega
      obtain ⟨pd, rfl⟩ := HO.out.path.some k hkl
      have hqsm : Hid (q ≤ 8192) := Lib.hid (by omega)
      have HO2 := Lib.hid HO.out.path
      go_upto_region 16 with (at_builtin; refine wpList_appendC rfl (.const (.slice none 0 0)) (.tmp 127) rfl wr.heap.size P rfl (some pd) q cp rfl hq.out hPh.out HO2.out hqsm.out (Nat.le_refl _) ?_; intro v1 w12 ho hg; have HOwn := Lib.hid ho; have HB12 : Hid (Below wr.heap.size wr w12) := Lib.hid ((Below.refl _ _).grown hg (Nat.le_refl _) (by intro k hk; simp at hk)); clear ho hg)
      obtain ⟨g2, c3, rfl, hg2⟩ : ∃ g2 c2, v1 = .slice (some ⟨g2, 0, none⟩) q c2 ∧ Hid ((q ≤ c2 ∧ c2 ≤ maxLen) ∧ wr.heap.size ≤ g2 ∧ w12.there g2 (k * 32) 32 ∧ HW w12 (some ⟨g2, 0, none⟩) P) := by
        obtain ⟨A, c2, e⟩ := own_form HOwn.out
        have hs := own_some (by have := HOwn.out; rw [e] at this; exact this)
        rcases hs.2.2 with ⟨_, h0⟩ | ⟨g2, rfl, h1, h2⟩
        · omega
        · have ho := HOwn.out
          rw [e] at ho
          exact ⟨g2, c2, e, Lib.hid ⟨⟨hs.1, by have := hs.2.1; unfold maxLen; omega⟩, h1, own_room ho k hlt, by rw [hq.out] at ho; exact own_HL ho hPh.out⟩⟩
      have hc3 : q ≤ c3 := hg2.out.1.1
      have HO5 := Lib.hid (HO.out.next HB12.out)
      have s1 : (readAt (.pointer (some ⟨w.heap.size, 2, none⟩))).run Tryd.prog w12 = .ok (.agg OL) w12 := (RC.out _ HO5.out.ck).1
      have ht : w12.there g2 (k * 32) OL.size := by rw [zO.out]; exact hg2.out.2.2.1
      have h6 := sizeH OL.size zO.out
      have HPs : Hid (HL (w12.setCells g2 (k * 32) OL.toList) w12.heap.size (some ⟨g2, 0, none⟩) (P.set k older)) := Lib.hid (by rw [hOL.out]; exact HL.set hg2.out.2.2.2 k hkl older H32.out.1.1 hg2.out.2.2.1)
      have HBs : Hid (Below wr.heap.size w12 (w12.setCells g2 (k * 32) OL.toList)) := Lib.hid (below_setCells_w hg2.out.2.1 _ _ _)
      have HZs : Hid ((w12.setCells g2 (k * 32) OL.toList).heap.size = w12.heap.size) := Lib.hid (size_setCells _ _ _ _)
      go_upto_region 17 with (first
        | (refine wpList_store_mid rfl 30 _ _ rfl g2 (k * 32) OL rfl rfl ht h6 oO.out ?_)
        | (refine wpList_store_at rfl 30 _ _ rfl g2 (k * 32) OL rfl rfl ht h6 oO.out ?_))
      refine world_gen (fun W => CxH w CL A ps g10 X R Al (some pd) ls P W ∧ HW W (some ⟨g2, 0, none⟩) (P.set k older)) ⟨HO.out.next (HB12.out.trans HBs.out), by unfold HW; rw [HZs.out]; exact HPs.out⟩ (fun w13 H13 => ?_)
      clear s1 ht h6 HPs HBs HZs HO5 HOwn HB12 HO HO2
      have HQs := Lib.hid H13.2
      have HOt := Lib.hid H13.1
      have hG2 := Lib.hid hg2.out.1
      clear hg2 H13
      have hPs : Hid (hashes (P.set k older) ∧ (P.set k older).length = q) := Lib.hid ⟨setL_hashes hPh.out k older H32.out.1, by rw [List.length_set, ← hq.out]⟩
      obtain ⟨E8, hE8⟩ : ∃ E, Hid (E = checkP (i : Int) (n : Int) x rt (P.set k older)) := ⟨_, Lib.hid rfl⟩
      have e88 : ((E8 : Int) != E8) = false := by simp
      have C8p : Hid (∀ W, Below w13.heap.size w13 W → Calls Tryd.prog 11 #[.int .i64 (i : Int), .int .i64 (n : Int), .agg X, .agg R, .slice (some ⟨g2, 0, none⟩) q c3] W fun e w' => e = .returned (.int .i64 E8) ∧ Below W.heap.size W w') := Lib.hid fun W hW => by
        rw [hE8.out]; exact CP.out W _ c3 (i : Int) (n : Int) x rt (P.set k older) X R q (HQs.out.next hW) (HOt.out.next hW).ck.tab hPs.out.1 hPs.out.2 HIN.out.1 HIN.out.2 hG2.out hX.out hR.out hx32.out hrt32.out
      have C8r : Hid (∀ W, Below w13.heap.size w13 W → Calls Tryd.prog 12 #[.int .i64 (i : Int), .int .i64 (n : Int), .agg X, .agg R, .slice (some ⟨g2, 0, none⟩) q c3] W fun e w' => e = .returned (.int .i64 E8) ∧ Below W.heap.size W w') := Lib.hid fun W hW => by
        rw [hE8.out]; exact CR.out W _ c3 (i : Int) (n : Int) x rt (P.set k older) X R q (HQs.out.next hW) hPs.out.1 hPs.out.2 HIN.out.1 HIN.out.2 hG2.out hX.out hR.out hx32.out hrt32.out
      clear hkl
      refine wp_region_fk (Below w13.heap.size w13) (.get 0 (.get 1 (.get 2 (.get 3 (.get 4 (.get 6 (.get 7 (.get 8 (.get 9 (.get 10 (.call 5 (.call 11 (.get 12 .done))))))))))))) (by kernel_rfl) rfl (by kernel_rfl) (by kernel_rfl) (by intro c a d v w h; cases d <;> exact h) (Below.refl w13.heap.size w13).drew (fun Q' hQ => ?_)
      have HS := Lib.hid (Below.refl w13.heap.size w13).drew
      have HQ := Lib.hid hQ
      clear hQ
      refine wpFk_get rfl (by rfl) (fun K hK => ?_)
      refine ⟨?_, fun w' hS' => ?_, ?_⟩
      rotate_left
      · go_simp
        try (with_reducible rfl)
      try go_simp
      refine hK _ ?_
      clear hK K
      refine wpFk_get rfl (by rfl) (fun K hK => ?_)
      refine ⟨?_, fun w' hS' => ?_, ?_⟩
      rotate_left
      · go_simp
        try (with_reducible rfl)
      try go_simp
      refine hK _ ?_
      clear hK K
      refine wpFk_get rfl (by rfl) (fun K hK => ?_)
      refine ⟨_, fun w' hS' => get_load rfl rfl ((HOt.out.next hS').o.read zX.out), ?_⟩
      try go_simp
      refine hK _ ?_
      clear hK K
      refine wpFk_get rfl (by rfl) (fun K hK => ?_)
      refine ⟨_, fun w' hS' => get_load rfl rfl ((HOt.out.next hS').rt.read zR.out), ?_⟩
      try go_simp
      refine hK _ ?_
      clear hK K
      refine wpFk_get rfl (by rfl) (fun K hK => ?_)
      refine ⟨?_, fun w' hS' => ?_, ?_⟩
      rotate_left
      · go_simp
        try (with_reducible rfl)
      try go_simp
      refine hK _ ?_
      clear hK K
      refine wpFk_get rfl (by rfl) (fun K hK => ?_)
      refine ⟨?_, fun w' hS' => ?_, ?_⟩
      rotate_left
      · go_simp
        try (with_reducible rfl)
      try go_simp
      refine hK _ ?_
      clear hK K
      refine wpFk_get rfl (by rfl) (fun K hK => ?_)
      refine ⟨?_, fun w' hS' => ?_, ?_⟩
      rotate_left
      · go_simp
        try (with_reducible rfl)
      try go_simp
      refine hK _ ?_
      clear hK K
      refine wpFk_get rfl (by rfl) (fun K hK => ?_)
      refine ⟨_, fun w' hS' => get_load rfl rfl ((HOt.out.next hS').o.read zX.out), ?_⟩
      try go_simp
      refine hK _ ?_
      clear hK K
      refine wpFk_get rfl (by rfl) (fun K hK => ?_)
      refine ⟨_, fun w' hS' => get_load rfl rfl ((HOt.out.next hS').rt.read zR.out), ?_⟩
      try go_simp
      refine hK _ ?_
      clear hK K
      refine wpFk_get rfl (by rfl) (fun K hK => ?_)
      refine ⟨?_, fun w' hS' => ?_, ?_⟩
      rotate_left
      · go_simp
        try (with_reducible rfl)
      try go_simp
      refine hK _ ?_
      clear hK K
      refine wpFk_call rfl (by rfl) (fun K hK => ?_)
      go_simp
      go_at_call 11
      refine (C8p.out _ HS.out).mono ?_
      rintro e w2x ⟨rfl, hb⟩
      replace HS := Lib.hid (below_new HS.out hb)
      clear hb
      refine hK _ _ HS.out ?_
      clear hK K
      refine wpFk_call rfl (by rfl) (fun K hK => ?_)
      go_simp
      go_at_call 12
      refine (C8r.out _ HS.out).mono ?_
      rintro e w2x ⟨rfl, hb⟩
      replace HS := Lib.hid (below_new HS.out hb)
      clear hb
      refine hK _ _ HS.out ?_
      clear hK K
      refine wpFk_get rfl (by rfl) (fun K hK => ?_)
      refine ⟨?_, fun w' hS' => ?_, ?_⟩
      rotate_left
      · go_simp
        try (with_reducible rfl)
      try go_simp
      refine hK _ ?_
      clear hK K
      refine wpFk_done ?_
      refine HQ.out _ _ ?_
      go_wp2
      go_roundw
      case rel => exact ⟨k + 1, by go_num, by omega, Lib.hid (HOt.out.next HS.out)⟩
      case measure => simp [intOf]; omega
    · have HTB := Lib.hid HO.out.ck.tab
      have HBB := Lib.hid HO.out.ck.below
      go_wp2_with (go_at_call 7; (with_reducible refine (proved_any _ HTB.out).mono ?_); rintro e w12 ⟨rfl, hb⟩; have HB12 := Lib.hid (below_new HBB.out hb); clear hb)
      go_ret
      exact ⟨rfl, HB12.out⟩
end Go.Proofs.YtkjgkeigfebcmaaDoor
namespace Go.Proofs.YtkjgkeigfebcmaaDoor
open Go.ChangeShapes Go.WideShapes Go.ChangeAt Go.RowKit
set_option linter.unusedVariables false
set_option maxRecDepth 100000

theorem cClaim : Tryd.prog.cellsOf 32 = 66 := by kernel_rfl
theorem cInt64 : Tryd.prog.cellsOf 3 = 1 := by kernel_rfl
theorem open_claim {H : Type} {enc : TypeId × Value → H} {W : World} {base b0 : Nat} {sp : Nat → Bool} {v : Value} {d : DataW H} {ps : List MemPlace}
    (hval : Value.okWide Tryd.prog W .any b0 32 v) (h : DataW.Trod enc Tryd.prog W base sp true 32 v d ps) :
    ∃ (a b : List Int) (i n : Int), v = .agg (claimV i n a b) ∧ (a.length = 32 ∧ bytes a) ∧ (b.length = 32 ∧ bytes b) ∧ (-9223372036854775808 ≤ i ∧ i ≤ 9223372036854775807) ∧ (-9223372036854775808 ≤ n ∧ n ≤ 9223372036854775807) := by
  obtain ⟨cs, rfl, hsz⟩ := okWide_struct Tryd.underlying32 hval
  rw [cClaim] at hsz
  obtain ⟨fuel, hf⟩ := h
  obtain ⟨xs, m, _, _, _, hl, hx⟩ := DataW.trod_struct Tryd.underlying32 hf
  have hl4 : xs.length = 4 := hl
  have e2 : DataW.trod enc Tryd.prog W base sp true m 3 ((cs.toList.drop 0).take (Tryd.prog.cellsOf 3)) = xs[0]? := hx 0 _ rfl
  have e3 : DataW.trod enc Tryd.prog W base sp true m 3 ((cs.toList.drop 1).take (Tryd.prog.cellsOf 3)) = xs[1]? := hx 1 _ rfl
  have e0 : DataW.trod enc Tryd.prog W base sp true m 30 ((cs.toList.drop 2).take (Tryd.prog.cellsOf 30)) = xs[2]? := hx 2 _ rfl
  have e1 : DataW.trod enc Tryd.prog W base sp true m 30 ((cs.toList.drop 34).take (Tryd.prog.cellsOf 30)) = xs[3]? := hx 3 _ rfl
  rw [List.getElem?_eq_getElem (show 2 < xs.length by omega)] at e0
  rw [List.getElem?_eq_getElem (show 3 < xs.length by omega)] at e1
  rw [List.getElem?_eq_getElem (show 0 < xs.length by omega)] at e2
  rw [List.getElem?_eq_getElem (show 1 < xs.length by omega)] at e3
  rw [cHash] at e0 e1
  rw [cInt64] at e2 e3
  obtain ⟨a, a1, a2, a3⟩ := hash_cells e0 (by simp; omega)
  obtain ⟨b, b1, b2, b3⟩ := hash_cells e1 (by simp; omega)
  obtain ⟨i, hi, _, wi⟩ := DataW.trod_int Tryd.underlying3 e2
  obtain ⟨n, hn, _, wn⟩ := DataW.trod_int Tryd.underlying3 e3
  have bi := bounds_i64 wi
  have bn := bounds_i64 wn
  refine ⟨a, b, i, n, ?_, ⟨a1, a2⟩, ⟨b1, b2⟩, by omega, by omega⟩
  congr 1
  have hs : (#[Value.int .i64 i, .int .i64 n]).size = 2 := rfl
  apply Array.ext_getElem?
  intro k
  unfold claimV
  by_cases h3 : k = 0
  · subst h3
    have := of_one cs.toList 0 _ hi
    rw [Array.getElem?_toList] at this
    rw [this, Array.getElem?_append_left (by omega)]; rfl
  by_cases h4 : k = 1
  · subst h4
    have := of_one cs.toList 1 _ hn
    rw [Array.getElem?_toList] at this
    rw [this, Array.getElem?_append_left (by omega)]; rfl
  rw [Array.getElem?_append_right (by omega), hs]
  by_cases h1 : k < 34
  · have h3 := a3 (k - 2) (by omega)
    rw [List.getElem?_take, if_pos (by omega), List.getElem?_drop, Array.getElem?_toList] at h3
    rw [nums_get .u8 _ (k - 2) (by rw [List.length_append]; omega), List.getD_eq_getElem?_getD, List.getElem?_append_left (by omega), ← List.getD_eq_getElem?_getD]
    rwa [show 2 + (k - 2) = k by omega] at h3
  · by_cases h2 : k < 66
    · have h3 := b3 (k - 34) (by omega)
      rw [List.getElem?_take, if_pos (by omega), List.getElem?_drop, Array.getElem?_toList] at h3
      rw [nums_get .u8 _ (k - 2) (by rw [List.length_append]; omega), List.getD_eq_getElem?_getD, List.getElem?_append_right (by omega), a1, ← List.getD_eq_getElem?_getD]
      rwa [show 34 + (k - 34) = k by omega, show k - 34 = k - 2 - 32 by omega] at h3
    · rw [Array.getElem?_eq_none (by omega), Array.getElem?_eq_none (by rw [nums_size, List.length_append]; omega)]
end Go.Proofs.YtkjgkeigfebcmaaDoor
namespace Go.Proofs.YtkjgkeigfebcmaaDoor.check
open Go.ChangeShapes Go.WideShapes Go.ChangeAt Go.RowKit
open Go.ChangeMaps (open_string)
set_option linter.unusedVariables false

set_option maxRecDepth 100000 in
theorem lifted (os : Os) (started : os.Started) (H : Type) (enc : TypeId × Value → H) :
    ReturnsInHanded {} Tryd.checked os 4 .any (fun w args => (Rows.proofsCheckSpec.pre enc Tryd.prog Tryd.f4 [] false w args ∧ laidMetH Tryd.prog laid2 w) ∧ sizedMet enc Tryd.prog Tryd.f4 (OpenSpec.ofChange Rows.proofsCheckSpec) false w args)
      (Rows.proofsCheckSpec.post enc Tryd.prog Tryd.f4 false true false false) := by
  refine returnsInHanded_of_change_and (C := Tryd.checked) (X := fun w _ => laidMetH Tryd.prog laid2 w) (fun _ _ _ hh h => h.of_heap hh) own started (by kernel_rfl) Tryd.func4
    (ChangeSpec.witness_shaped (enc := enc) (C := Tryd.checked) (os := os) (X := fun w _ => laidMetH Tryd.prog laid2 w) false (World.doorLaid Tryd.prog 400 os) #[.agg (claimV 0 0 zero32 zero32), .slice none 0 0] 8 rfl (World.shaped_of_RefB (by kernel_rfl) (by kernel_rfl)) (by kernel_rfl) (by kernel_rfl) (by kernel_rfl) (door_met os _)) ?_
  intro W base args ds gs before hval0 hW _ _ hL _
  have hval : ∀ (j : Nat) t v, Tryd.f4.params[j]? = some t → args[j]? = some v → Value.okWide Tryd.prog W .any base t v := hval0
  have hW' := hW
  obtain ⟨p, q, hA0, hV, rfl, hfz, hnd⟩ := hW
  have hA : DataW.TrodAll enc Tryd.prog W 0 (fun _ => true) true Tryd.f4.params.toList args.toList ds p := hA0
  rw [Tryd.params4] at hA hval
  obtain ⟨v0, vs0, d0, ds0, p0, q0, hargs, rfl, rfl, h0, r0⟩ := trodAll_cons hA
  obtain ⟨v1, vs1, d1, ds1, p1, q1, rfl, rfl, rfl, h1, r1⟩ := trodAll_cons r0
  obtain ⟨rfl, rfl, rfl⟩ := trodAll_nil r1
  obtain rfl : args = #[v0, v1] := by cases args; simp_all
  obtain ⟨rfl, rfl⟩ := trodVars_none hV
  have k0 := h0
  have lt0 : ∀ x ∈ p0, x.block < W.heap.size := by obtain ⟨m, hm⟩ := k0; exact DataW.trod_lt m _ _ _ hm
  have k1 := h1
  have lt1 : ∀ x ∈ p1, x.block < W.heap.size := by obtain ⟨m, hm⟩ := k1; exact DataW.trod_lt m _ _ _ hm
  obtain ⟨la0, lb0, ci0, cn0, rfl, pa0, pb0, pi0, pn0⟩ := open_claim (hval 0 32 v0 rfl rfl) h0
  obtain ⟨A1, c1, ls1, rfl, hh1, hl1, hc1, hm1⟩ := open_list (hval 1 22 v1 rfl rfl) h1
  clear hA0 hval0
  refine (pchecklaw_any la0 lb0 pa0 pb0 ci0 cn0 pi0 pn0 ls1 hh1 A1 c1 W hl1 (of_laid hL) hc1 hm1).mono fun e W' ⟨he, bel⟩ => ?_
  subst he
  exact ⟨_, rfl, _, _, _, [], _, [], hW', trodAll_mk1 (shut_bool Tryd.underlying4 _), (trodAll_cons_mk (Below.trod laidOut (by kernel_rfl) (of_decide_eq_true (by kernel_rfl)) k0 bel lt0) (trodAll_cons_mk (Below.trod laidOut (by kernel_rfl) (of_decide_eq_true (by kernel_rfl)) k1 bel lt1) trodAll_mk0)), rfl, bel.frame _, fun h => by cases h⟩

theorem over : Rows.ProofsCheckSaid :=
  OpenClaim.holds_of_wide 4 Tryd.f4 rfl rfl rfl rfl rfl rfl rfl ⟨rfl, rfl, rfl, rfl, rfl⟩ rfl rfl rfl rfl rfl (by kernel_rfl) Tryd.func4 (by kernel_rfl)
    (of_decide_eq_true (by kernel_rfl)) (by unfold Func.isWrapper; first | (rw [if_pos (by decide +kernel)]; kernel_rfl) | (rw [if_neg (by decide +kernel)]; exact ⟨rfl, rfl⟩))
    (fun os started H enc _ => lifted os started H enc)

/-- The statement. -/
theorem proved : Rows.ProofsCheckCardSaid :=
  Claim7.holds_tied_plain_at .later [] [.data, .data] true _ false
    over (fun _ h => by cases h) (by kernel_rfl) (fun _ h => by cases h) proofsCheck_row_tie rfl ⟨rfl, rfl⟩ (by kernel_rfl) rfl
    (fun f fn hf hfn => by
      obtain rfl : f = 4 := Option.some.inj ((show Tryd.prog.funcNamed "speculum/speculumlaw07.ProofsCheck" = some 4 by kernel_rfl).symm.trans hf) |>.symm
      obtain rfl : fn = Tryd.f4 := (Option.some.inj (Tryd.func4.symm.trans hfn)).symm
      exact ⟨by kernel_rfl, fun j t ht => by
        rw [Tryd.params4] at ht
        have hm : t ∈ [32, 22] := by simpa using Array.mem_of_getElem? ht
        have hall : ([32, 22].all fun u => !Tryd.prog.wantsStandIn u) = true := by kernel_rfl
        exact (show Tryd.prog.wantsStandIn t = false by simpa using List.all_eq_true.1 hall t hm)⟩)
    (by kernel_rfl)
#print axioms proved
end Go.Proofs.YtkjgkeigfebcmaaDoor.check
