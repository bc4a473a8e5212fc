/-
  The walk of the statement PathsCheck: it returns true; what it makes is new memory, nothing that was there changes. Conditions: the two tables as they were laid, a list of hashes in memory, numbers that fit.
-/
import Derived.Test.YtfakimbneenfdaaDoorPathFound
import Derived.Test.YtfakimbneenfdaaDoorPathCopy
import Derived.Test.YtfakimbneenfdaaDoorPathReverse
import Derived.Deep.MidRow
import Derived.Test.YtfakimbneenfdaaDoorPathRefCheck
import Derived.Test.YtfakimbneenfdaaDoorPathRefPath
namespace Go.Proofs.YtfakimbneenfdaaDoor
open Go.RowKit Go.Great
set_option linter.unusedVariables false
set_option maxRecDepth 100000

theorem wpList_appendC {ops : Array Oper} {rest : List Oper} {o : Oper} {a : Act} {w : World} {Q : Exit → Act → World → Prop} (hgd : o.guard = none) (s x : Operand) (ho : o.op = .call { callee := .builtin .append, args := #[s, x], argTypes := #[22, 22] })
    (B : Nat) (us : List (List Int)) (hsv : a.eval s = .slice none 0 0) (A : Option Addr) (m c : Nat) (hx : a.eval x = .slice A m c) (hm : m = us.length) (hu : hashes us) (hU : HL w w.heap.size A us) (hsm : m ≤ 8192) (hB : B ≤ w.heap.size)
    (h : ∀ v' w', w'.ownsRow B 31 32 v' m (cellsL us) → w.grownBy w' none → wpList Tryd.prog ops Q rest (a.put o.dst v') w') : wpList Tryd.prog ops Q (o :: rest) a w :=
  wpList_plain hgd fun _ hK => wp_appendC s x ho B us hsv A m c hx hm hu hU hsm hB fun v' w' h1 h2 => hK _ _ (h v' w' h1 h2)
theorem wpList_store_at {P : Program} {ops : Array Oper} {rest : List Oper} {op : Oper} {a : Act} {w : World} {Q : Exit → Act → World → Prop} (hgd : op.guard = none) (ty : TypeId) (x y : Operand) (ho : op.op = .store ty x y)
    (b o : Nat) (cells : Array Value) (hx : a.eval x = .pointer (some ((⟨b, 0, none⟩ : Addr).add o))) (hy : a.eval y = .agg cells)
    (ht : w.there b o cells.size) (hi : (P.info? ty).map (·.size) = some cells.size) (h1 : cells.all (·.oneCell') = true)
    (h : wpList P ops Q rest (a.put op.dst undef) (w.setCells b o cells.toList)) : wpList P ops Q (op :: rest) a w :=
  wpList_store_mid hgd ty x y ho b o cells (by rw [hx, add_flat]) hy ht hi h1 h
/-- A claim's cells. -/
def claimV (leaf root : List Int) (i n : Int) : Array Value := nums .u8 (leaf ++ root) ++ #[.int .i64 i, .int .i64 n]
theorem claim_read {w : World} {b : Nat} {leaf root : List Int} {i n : Int} (hl : leaf.length = 32) (hr : root.length = 32) (h : Row w b 50 (claimV leaf root i n)) :
    (readAt (.pointer (some ⟨b, 0, none⟩))).run Tryd.prog w = .ok (.agg (nums .u8 leaf)) w ∧ (readAt (.pointer (some ⟨b, 32, none⟩))).run Tryd.prog w = .ok (.agg (nums .u8 root)) w ∧ w.cell? ⟨b, 64, none⟩ = some (.int .i64 i) ∧ w.cell? ⟨b, 65, none⟩ = some (.int .i64 n) := by
  have hs : (nums .u8 (leaf ++ root)).size = 64 := by rw [nums_size, List.length_append, hl, hr]
  refine ⟨read_flat w _ leaf hl (fun j hj => ?_), read_flat w _ root hr (fun j hj => ?_), ?_, ?_⟩
  · rw [add_flat, h.cell]
    unfold claimV
    rw [Array.getElem?_append_left (by omega), nums_get .u8 _ j (by rw [List.length_append]; omega), List.getD_eq_getElem?_getD, List.getElem?_append_left (by omega), ← List.getD_eq_getElem?_getD]
  · rw [show (⟨b, 32, none⟩ : Addr).add j = ⟨b, 32 + j, none⟩ by unfold Addr.add; split <;> simp_all, h.cell]
    unfold claimV
    rw [Array.getElem?_append_left (by omega), nums_get .u8 _ (32 + j) (by rw [List.length_append]; omega), List.getD_eq_getElem?_getD, List.getElem?_append_right (by omega), hl, show 32 + j - 32 = j by omega, ← List.getD_eq_getElem?_getD]
  · rw [h.cell]; unfold claimV; rw [Array.getElem?_append_right (by omega), hs]; rfl
  · rw [h.cell]; unfold claimV; rw [Array.getElem?_append_right (by omega), hs]; rfl
/-- A number's last twelve bits. -/
theorem and_4095 (x : Int) : bits .and .i64 x 4095 = x % 4096 := by
  have oa : (BitVec.ofInt 64 x).toNat = (x % 18446744073709551616).toNat := by rw [BitVec.toNat_ofInt]; rfl
  have ob : (BitVec.ofInt 64 (4095 : Int)).toNat = 4095 := by decide
  show IntKind.i64.wrap ((BitVec.ofInt 64 x &&& BitVec.ofInt 64 4095).toNat : Int) = _
  rw [BitVec.toNat_and, oa, ob, show (4095 : Nat) = 2 ^ 12 - 1 by decide, Nat.and_two_pow_sub_one_eq_mod, IntKind.wrap_i64]
  omega
/-- What the statement holds, before the leaves: the claim, the other hash, the list. -/
structure CkH (w : World) (CL O : Array Value) (A : Option Addr) (ps : List (List Int)) (W : World) : Prop where
  cl : Row W w.heap.size 50 CL
  ot : Row W (w.heap.size + 1) 31 O
  ps : HW W A ps
  tab : Tab W
  below : Below w.heap.size w W
theorem CkH.next {w W W1 : World} {CL O : Array Value} {A : Option Addr} {ps : List (List Int)} (h : CkH w CL O A ps W) (hb : Below W.heap.size W W1) : CkH w CL O A ps W1 :=
  ⟨h.cl.next hb, h.ot.next hb, h.ps.next hb, h.tab.next hb, below_new h.below hb⟩
/-- And with them: the root, the leaves, the path. -/
structure CxH (w : World) (CL O : Array Value) (A : Option Addr) (ps : List (List Int)) (g12 g : Nat) (R : Array Value) (Ap : Option Addr) (ls P : List (List Int)) (W : World) : Prop where
  ck : CkH w CL O A ps W
  rt : Row W g12 31 R
  ls : HW W (some ⟨g, 0, none⟩) ls
  path : HW W Ap P
theorem CxH.next {w W W1 : World} {CL O : Array Value} {A : Option Addr} {ps : List (List Int)} {g12 g : Nat} {R : Array Value} {Ap : Option Addr} {ls P : List (List Int)} (h : CxH w CL O A ps g12 g R Ap ls P W) (hb : Below W.heap.size W W1) : CxH w CL O A ps g12 g R Ap ls P W1 :=
  ⟨h.ck.next hb, h.rt.next hb, h.ls.next hb, h.path.next hb⟩
attribute [local go_sem ↓ high] read_at write_at eq_at neq_at
set_option maxHeartbeats 80000000 in
theorem checklaw_any (leaf root : List Int) (hl32 : leaf.length = 32 ∧ bytes leaf) (hr32 : root.length = 32 ∧ bytes root) (ci cn : Int) (hci : -9223372036854775808 ≤ ci ∧ ci ≤ 9223372036854775807) (hcn : -9223372036854775808 ≤ cn ∧ cn ≤ 9223372036854775807)
    (ps : List (List Int)) (hps : hashes ps) (A : Option Addr) (c : Nat) (ot : List Int) (ho32 : ot.length = 32 ∧ bytes ot) (w : World) (hA : HL w w.heap.size A ps) (hT : Tab w) (hc : ps.length ≤ c) (hcm : c ≤ maxLen) :
    Calls Tryd.prog 8 #[.agg (claimV leaf root ci cn), .slice A ps.length c, .agg (nums .u8 ot)] w fun e w' => e = .returned (.bool true) ∧ Below w.heap.size w w' := by
  obtain ⟨pl, hpl⟩ : ∃ n, Hid (n = ps.length) := ⟨_, Lib.hid rfl⟩
  obtain ⟨CL, hCL⟩ : ∃ C, Hid (C = claimV leaf root ci cn) := ⟨_, Lib.hid rfl⟩
  obtain ⟨O, hO⟩ : ∃ O, Hid (O = nums .u8 ot) := ⟨_, Lib.hid rfl⟩
  obtain ⟨LF, hLF⟩ : ∃ O, Hid (O = nums .u8 leaf) := ⟨_, Lib.hid rfl⟩
  obtain ⟨RT, hRT⟩ : ∃ O, Hid (O = nums .u8 root) := ⟨_, Lib.hid rfl⟩
  have zO : Hid (O.size = 32) := Lib.hid (by rw [hO.out, nums_size]; exact ho32.1)
  have oO : Hid (O.all (·.oneCell') = true) := Lib.hid (by rw [hO.out]; exact nums_one _ _)
  have hcm2 : c ≤ 9223372036854775807 := by unfold maxLen at hcm; omega
  have hplm : pl ≤ c := by rw [hpl.out]; exact hc
  have HCA := Lib.hid (And.intro hc hcm)
  have HT := Lib.hid hT
  have HAw : Hid (HW w A ps) := Lib.hid hA
  have H32 := Lib.hid (And.intro hl32 (And.intro hr32 ho32))
  have HPS := Lib.hid hps
  have HCI := Lib.hid hci
  have HCN := Lib.hid hcn
  -- Check of whatever, the program's and the document's
  have CP : Hid (∀ W B d (j n : Int) (y r : List Int) (P' : List (List Int)) (Y Rr : Array Value) (l : Nat), HW W B P' → Tab W → hashes P' → P'.length = l → (-9223372036854775808 ≤ j ∧ j ≤ 9223372036854775807) → (-9223372036854775808 ≤ n ∧ n ≤ 9223372036854775807) → (l ≤ d ∧ d ≤ maxLen) → Y = nums .u8 y → Rr = nums .u8 r → (y.length = 32 ∧ bytes y) → (r.length = 32 ∧ bytes r) → Calls Tryd.prog 34 #[.agg Y, .int .i64 j, .int .i64 n, .slice B l d, .agg Rr] W fun e w' => e = .returned (.int .i64 (checkF y j n P' r)) ∧ Below W.heap.size W w') := Lib.hid fun W B d j n y r P' Y Rr l hB hTW hP' hl hj hn hd hY hRr hy hr => by
    have := check_any y r hy hr j n hj hn P' hP' B d W hB hTW (by rw [hl]; exact hd.1) (by have := hd.2; unfold maxLen at this; omega)
    rwa [hl, ← hY, ← hRr] at this
  have CR : Hid (∀ W B d (j n : Int) (y r : List Int) (P' : List (List Int)) (Y Rr : Array Value) (l : Nat), HW W B P' → hashes P' → P'.length = l → (-9223372036854775808 ≤ j ∧ j ≤ 9223372036854775807) → (-9223372036854775808 ≤ n ∧ n ≤ 9223372036854775807) → (l ≤ d ∧ d ≤ maxLen) → Y = nums .u8 y → Rr = nums .u8 r → (y.length = 32 ∧ bytes y) → (r.length = 32 ∧ bytes r) → Calls Tryd.prog 35 #[.agg Y, .int .i64 j, .int .i64 n, .slice B l d, .agg Rr] W fun e w' => e = .returned (.int .i64 (checkF y j n P' r)) ∧ Below W.heap.size W w') := Lib.hid fun W B d j n y r P' Y Rr l hB hP' hl hj hn hd hY hRr hy hr => by
    have := refCheck_any y r hy hr j n hj hn P' hP' B d W hB (by rw [hl]; exact hd.1) (by have := hd.2; unfold maxLen at this; omega)
    rwa [hl, ← hY, ← hRr] at this
  have RC : Hid (∀ W, CkH w CL O A ps W → (readAt (.pointer (some ⟨w.heap.size, 0, none⟩))).run Tryd.prog W = .ok (.agg LF) W ∧ (readAt (.pointer (some ⟨w.heap.size, 32, none⟩))).run Tryd.prog W = .ok (.agg RT) W ∧ W.cell? ⟨w.heap.size, 64, none⟩ = some (.int .i64 ci) ∧ W.cell? ⟨w.heap.size, 65, none⟩ = some (.int .i64 cn)) := Lib.hid fun W hW => by
    have h1 := hW.cl
    rw [hCL.out] at h1
    rw [hLF.out, hRT.out]
    exact claim_read hl32.1 hr32.1 h1
  rw [← hpl.out, ← hCL.out, ← hO.out]
  clear hA hT hc hcm hps hl32 hr32 ho32
  by_cases h80 : 80 < pl
  · have d1 : decide (80 < (pl : Int)) = true := decide_eq_true (by omega)
    have d2 : (80 : Int) < (pl : Int) := by omega
    go_enter Tryd.func8, Tryd.ntmps8
    go_upto_region 1 with fail
    refine world_gen (fun W => Tab W ∧ Below w.heap.size w W) ⟨HT.out.next (((Below.refl _ _).alloc (Nat.le_refl _) _).alloc (by simp) _), ((Below.refl _ _).alloc (Nat.le_refl _) _).alloc (by simp) _⟩ (fun wx HX => ?_)
    have HX := Lib.hid HX
    go_wp2_with (go_at_call 31; (with_reducible refine (found_any _ HX.out.1).mono ?_); rintro e w1 ⟨rfl, hb⟩; have HB1 := Lib.hid (below_new HX.out.2 hb); clear hb)
    go_ret
    exact ⟨rfl, HB1.out⟩
  have d1 : decide (80 < (pl : Int)) = false := decide_eq_false (by omega)
  have d2 : ¬ (80 : Int) < (pl : Int) := by omega
  have d3 : (pl : Int) ≤ 80 := by omega
  obtain ⟨E1, hE1⟩ : ∃ E, Hid (E = checkF leaf ci cn ps root) := ⟨_, Lib.hid rfl⟩
  have C1p : Hid (∀ W, CkH w CL O A ps W → Calls Tryd.prog 34 #[.agg LF, .int .i64 ci, .int .i64 cn, .slice A pl c, .agg RT] W fun e w' => e = .returned (.int .i64 E1) ∧ Below W.heap.size W w') := Lib.hid fun W hW => by
    rw [hE1.out]; exact CP.out W A c ci cn leaf root ps LF RT pl hW.ps hW.tab HPS.out hpl.out.symm HCI.out HCN.out (by rw [hpl.out]; exact HCA.out) hLF.out hRT.out H32.out.1 H32.out.2.1
  have C1r : Hid (∀ W, CkH w CL O A ps W → Calls Tryd.prog 35 #[.agg LF, .int .i64 ci, .int .i64 cn, .slice A pl c, .agg RT] W fun e w' => e = .returned (.int .i64 E1) ∧ Below W.heap.size W w') := Lib.hid fun W hW => by
    rw [hE1.out]; exact CR.out W A c ci cn leaf root ps LF RT pl hW.ps HPS.out hpl.out.symm HCI.out HCN.out (by rw [hpl.out]; exact HCA.out) hLF.out hRT.out H32.out.1 H32.out.2.1
  have e11 : ((E1 : Int) != E1) = false := by simp
  -- the numbers brought within
  obtain ⟨a, ha⟩ : ∃ a : Nat, Hid (cn % 4096 = (a : Int) ∧ a < 4096) := ⟨(cn % 4096).toNat, Lib.hid ⟨by omega, by omega⟩⟩
  obtain ⟨b, hb⟩ : ∃ b : Nat, Hid (ci % 4096 = (b : Int) ∧ b < 4096) := ⟨(ci % 4096).toNat, Lib.hid ⟨by omega, by omega⟩⟩
  have an : bits .and .i64 cn 4095 = (a : Int) := by rw [and_4095, ha.out.1]
  have bn : bits .and .i64 ci 4095 = (b : Int) := by rw [and_4095, hb.out.1]
  have ha2 := ha.out.2
  have hb2 := hb.out.2
  obtain ⟨n, hn⟩ : ∃ n : Nat, Hid (n = 1 + a) := ⟨_, Lib.hid rfl⟩
  have en : 1 + (a : Int) = (n : Int) := by rw [hn.out]; omega
  have hn1 : 1 ≤ n := by rw [hn.out]; omega
  have hn2 : n ≤ 4096 := by rw [hn.out]; omega
  obtain ⟨i, hi⟩ : ∃ i : Nat, Hid ((b : Int).tmod (n : Int) = (i : Int) ∧ i < n) := ⟨b % n, Lib.hid ⟨by rw [Int.tmod_eq_emod_of_nonneg (by omega)]; simp, Nat.mod_lt _ (by omega)⟩⟩
  have ei : (b : Int).tmod (n : Int) = (i : Int) := hi.out.1
  have him : i < n := hi.out.2
  have z1 : ¬ ((n : Int) = 0) := by omega
  have z2 : ((n : Int) == 0) = false := by simp; omega
  obtain ⟨sd, hsd⟩ : ∃ sd : Int, Hid (ci % 256 = sd ∧ 0 ≤ sd ∧ sd < 256) := ⟨ci % 256, Lib.hid ⟨rfl, by omega, by omega⟩⟩
  have es : ci % 256 = sd := hsd.out.1
  have es2 : IntKind.u8.wrap ci = sd := by rw [IntKind.wrap_u8]; exact es
  obtain ⟨ls, hls⟩ : ∃ ls, Hid (ls = someM sd n) := ⟨_, Lib.hid rfl⟩
  have hh : hashes ls := by rw [hls.out]; exact someM_hashes sd hsd.out.2 n (by omega)
  have ll : Hid (ls.length = n) := Lib.hid (by rw [hls.out, someM_length])
  have S0 : Hid (∀ W, Calls Tryd.prog 30 #[.int .i64 (n : Int), .int .u8 sd] W fun ev w' => (∃ g c, ev = .returned (.slice (some ⟨g, 0, none⟩) n c) ∧ (n ≤ c ∧ c ≤ maxLen) ∧ HW w' (some ⟨g, 0, none⟩) ls) ∧ Below W.heap.size W w') := Lib.hid fun W => by
    refine (someG_any n (by omega) sd hsd.out.2 W).mono ?_
    rintro ev w' ⟨⟨A, c, he, hc, hA, h0⟩, hb⟩
    rcases h0 with h0 | ⟨g, rfl⟩
    · omega
    · exact ⟨⟨g, c, he, hc, by rw [hls.out]; exact hA⟩, hb⟩
  have HHs := Lib.hid hh
  clear hh hci hcn
  go_enter Tryd.func8, Tryd.ntmps8
  go_upto_region 1 with fail
  refine world_gen (fun W => Row W w.heap.size 50 CL ∧ Row W (w.heap.size + 1) 31 O ∧ Below w.heap.size w W) ⟨(Row.made _ _ _).alloc _, Row.made2 _ _ _ _, ((Below.refl _ _).alloc (Nat.le_refl _) _).alloc (by simp) _⟩ (fun w3 HX => ?_)
  have HCk : Hid (CkH w CL O A ps w3) := Lib.hid ⟨HX.1, HX.2.1, HAw.out.next HX.2.2, HT.out.next HX.2.2, HX.2.2⟩
  clear HX
  go_upto_region 3 with fail
  refine wp_region_fk (Below w3.heap.size w3) (.get 0 (.get 1 (.get 2 (.get 3 (.get 4 (.get 5 (.get 6 (.get 7 (.get 8 (.get 10 (.get 11 (.get 12 (.get 13 (.get 14 (.get 15 (.get 16 (.get 17 (.get 18 (.call 9 (.call 19 (.get 20 .done))))))))))))))))))))) (by kernel_rfl) rfl (by kernel_rfl) (by kernel_rfl) (by intro c a d v w h; cases d <;> exact h) (Below.refl w3.heap.size w3).drew (fun Q' hQ => ?_)
  have HS := Lib.hid (Below.refl w3.heap.size w3).drew
  have HQ := Lib.hid hQ
  clear hQ
  refine wpFk_get rfl (by rfl) (fun K hK => ?_)
  refine ⟨?_, fun w' hS' => ?_, ?_⟩
  rotate_left
  · go_simp
    try (with_reducible rfl)
  try go_simp
  refine hK _ ?_
  clear hK K
  refine wpFk_get rfl (by rfl) (fun K hK => ?_)
  refine ⟨_, fun w' hS' => get_load rfl rfl (RC.out _ (HCk.out.next hS')).1, ?_⟩
  try go_simp
  refine hK _ ?_
  clear hK K
  refine wpFk_get rfl (by rfl) (fun K hK => ?_)
  refine ⟨?_, fun w' hS' => ?_, ?_⟩
  rotate_left
  · go_simp
    try (with_reducible rfl)
  try go_simp
  refine hK _ ?_
  clear hK K
  refine wpFk_get rfl (by rfl) (fun K hK => ?_)
  refine ⟨?_, fun w' hS' => ?_, ?_⟩
  rotate_left
  · have c64 := (RC.out _ (HCk.out.next hS')).2.2.1
    go_simp
    try (with_reducible rfl)
  try go_simp
  refine hK _ ?_
  clear hK K
  refine wpFk_get rfl (by rfl) (fun K hK => ?_)
  refine ⟨?_, fun w' hS' => ?_, ?_⟩
  rotate_left
  · go_simp
    try (with_reducible rfl)
  try go_simp
  refine hK _ ?_
  clear hK K
  refine wpFk_get rfl (by rfl) (fun K hK => ?_)
  refine ⟨?_, fun w' hS' => ?_, ?_⟩
  rotate_left
  · have c65 := (RC.out _ (HCk.out.next hS')).2.2.2
    go_simp
    try (with_reducible rfl)
  try go_simp
  refine hK _ ?_
  clear hK K
  refine wpFk_get rfl (by rfl) (fun K hK => ?_)
  refine ⟨?_, fun w' hS' => ?_, ?_⟩
  rotate_left
  · go_simp
    try (with_reducible rfl)
  try go_simp
  refine hK _ ?_
  clear hK K
  refine wpFk_get rfl (by rfl) (fun K hK => ?_)
  refine ⟨?_, fun w' hS' => ?_, ?_⟩
  rotate_left
  · go_simp
    try (with_reducible rfl)
  try go_simp
  refine hK _ ?_
  clear hK K
  refine wpFk_get rfl (by rfl) (fun K hK => ?_)
  refine ⟨_, fun w' hS' => get_load rfl rfl (RC.out _ (HCk.out.next hS')).2.1, ?_⟩
  try go_simp
  refine hK _ ?_
  clear hK K
  refine wpFk_get rfl (by rfl) (fun K hK => ?_)
  refine ⟨?_, fun w' hS' => ?_, ?_⟩
  rotate_left
  · go_simp
    try (with_reducible rfl)
  try go_simp
  refine hK _ ?_
  clear hK K
  refine wpFk_get rfl (by rfl) (fun K hK => ?_)
  refine ⟨_, fun w' hS' => get_load rfl rfl (RC.out _ (HCk.out.next hS')).1, ?_⟩
  try go_simp
  refine hK _ ?_
  clear hK K
  refine wpFk_get rfl (by rfl) (fun K hK => ?_)
  refine ⟨?_, fun w' hS' => ?_, ?_⟩
  rotate_left
  · go_simp
    try (with_reducible rfl)
  try go_simp
  refine hK _ ?_
  clear hK K
  refine wpFk_get rfl (by rfl) (fun K hK => ?_)
  refine ⟨?_, fun w' hS' => ?_, ?_⟩
  rotate_left
  · have c64 := (RC.out _ (HCk.out.next hS')).2.2.1
    go_simp
    try (with_reducible rfl)
  try go_simp
  refine hK _ ?_
  clear hK K
  refine wpFk_get rfl (by rfl) (fun K hK => ?_)
  refine ⟨?_, fun w' hS' => ?_, ?_⟩
  rotate_left
  · go_simp
    try (with_reducible rfl)
  try go_simp
  refine hK _ ?_
  clear hK K
  refine wpFk_get rfl (by rfl) (fun K hK => ?_)
  refine ⟨?_, fun w' hS' => ?_, ?_⟩
  rotate_left
  · have c65 := (RC.out _ (HCk.out.next hS')).2.2.2
    go_simp
    try (with_reducible rfl)
  try go_simp
  refine hK _ ?_
  clear hK K
  refine wpFk_get rfl (by rfl) (fun K hK => ?_)
  refine ⟨?_, fun w' hS' => ?_, ?_⟩
  rotate_left
  · go_simp
    try (with_reducible rfl)
  try go_simp
  refine hK _ ?_
  clear hK K
  refine wpFk_get rfl (by rfl) (fun K hK => ?_)
  refine ⟨?_, fun w' hS' => ?_, ?_⟩
  rotate_left
  · go_simp
    try (with_reducible rfl)
  try go_simp
  refine hK _ ?_
  clear hK K
  refine wpFk_get rfl (by rfl) (fun K hK => ?_)
  refine ⟨_, fun w' hS' => get_load rfl rfl (RC.out _ (HCk.out.next hS')).2.1, ?_⟩
  try go_simp
  refine hK _ ?_
  clear hK K
  refine wpFk_call rfl (by rfl) (fun K hK => ?_)
  go_simp
  go_at_call 34
  refine (C1p.out _ (HCk.out.next HS.out)).mono ?_
  rintro e w2x ⟨rfl, hb⟩
  replace HS := Lib.hid (below_new HS.out hb)
  clear hb
  refine hK _ _ HS.out ?_
  clear hK K
  refine wpFk_call rfl (by rfl) (fun K hK => ?_)
  go_simp
  go_at_call 35
  refine (C1r.out _ (HCk.out.next HS.out)).mono ?_
  rintro e w2x ⟨rfl, hb⟩
  replace HS := Lib.hid (below_new HS.out hb)
  clear hb
  refine hK _ _ HS.out ?_
  clear hK K
  refine wpFk_get rfl (by rfl) (fun K hK => ?_)
  refine ⟨?_, fun w' hS' => ?_, ?_⟩
  rotate_left
  · go_simp
    try (with_reducible rfl)
  try go_simp
  refine hK _ ?_
  clear hK K
  refine wpFk_done ?_
  refine HQ.out _ _ ?_
  go_upto_region 5 with fail
  refine world_gen (fun W => CkH w CL O A ps W) (HCk.out.next HS.out) (fun w5 HX => ?_)
  have HCk := Lib.hid HX
  clear HS HQ HX C1p C1r e11
  have c64 := (RC.out _ HCk.out).2.2.1
  have c65 := (RC.out _ HCk.out).2.2.2
  go_upto_region 8 with (go_at_call 30; (with_reducible refine (S0.out _).mono ?_); rintro e w6 ⟨⟨g, c2, rfl, hc2, hA⟩, hb⟩; have H6 : Hid (CkH w CL O A ps w6 ∧ HW w6 (some ⟨g, 0, none⟩) ls) := Lib.hid ⟨HCk.out.next hb, hA⟩; have HC2 := Lib.hid hc2; clear hb hA hc2 c64 c65)
  clear S0 HCk
  have hc21 : n ≤ c2 := HC2.out.1
  by_cases h300 : 300 < n
  · have d4 : decide (300 < (n : Int)) = true := decide_eq_true (by omega)
    have d5 : (300 : Int) < (n : Int) := by omega
    have b1 : (300 : Int) ≤ (n : Int) := by omega
    have b2 : (300 : Int) ≤ (c2 : Int) := by omega
    obtain ⟨i2, hi2⟩ : ∃ i2 : Nat, Hid ((i : Int).tmod 300 = (i2 : Int) ∧ i2 < 300) := ⟨i % 300, Lib.hid ⟨by rw [Int.tmod_eq_emod_of_nonneg (by omega)]; omega, Nat.mod_lt _ (by omega)⟩⟩
    have ei2 : (i : Int).tmod 300 = (i2 : Int) := hi2.out.1
    have him2 : i2 < 300 := hi2.out.2
    obtain ⟨ms, hms⟩ : ∃ ms, Hid (ms = ls.take 300) := ⟨_, Lib.hid rfl⟩
    have lm : Hid (ms.length = 300) := Lib.hid (by rw [hms.out, List.length_take, ll.out]; omega)
    have hmh : Hid (hashes ms) := Lib.hid (by rw [hms.out]; exact hashes_take HHs.out _)
    have HM6 : Hid (CkH w CL O A ps w6 ∧ HW w6 (some ⟨g, 0, none⟩) ms) := Lib.hid ⟨H6.out.1, by rw [hms.out]; exact HL.take H6.out.2 300⟩
    have hmc : Hid (300 ≤ c2 ∧ c2 ≤ maxLen) := Lib.hid ⟨by omega, HC2.out.2⟩
    clear H6
    have d6 : (i2 : Int) < (300 : Int) := by omega
    have hwi : IntKind.i64.wrap (i2 : Int) = (i2 : Int) := by rw [IntKind.wrap_i64]; omega
    have HIM : Hid (i2 < ms.length) := Lib.hid (by rw [lm.out]; omega)
    obtain ⟨x, hx⟩ : ∃ x, Hid (x = ms.getD i2 []) := ⟨_, Lib.hid rfl⟩
    obtain ⟨rt, hrt⟩ : ∃ r, Hid (r = rootL ms) := ⟨_, Lib.hid rfl⟩
    have hx32 : Hid (x.length = 32 ∧ bytes x) := Lib.hid (by rw [hx.out]; exact hashes_at hmh.out i2 HIM.out)
    have hrt32 : Hid (rt.length = 32 ∧ bytes rt) := Lib.hid (by rw [hrt.out]; exact rootL_is _ hmh.out)
    obtain ⟨R, hR⟩ : ∃ R, Hid (R = nums .u8 rt) := ⟨_, Lib.hid rfl⟩
    obtain ⟨X, hX⟩ : ∃ X, Hid (X = nums .u8 x) := ⟨_, Lib.hid rfl⟩
    have zR : Hid (R.size = 32) := Lib.hid (by rw [hR.out, nums_size]; exact hrt32.out.1)
    have oR : Hid (R.all (·.oneCell') = true) := Lib.hid (by rw [hR.out]; exact nums_one _ _)
    obtain ⟨P, hP⟩ : ∃ P, Hid (P = pathL ms i2) := ⟨_, Lib.hid rfl⟩
    obtain ⟨q, hq⟩ : ∃ q, Hid (q = P.length) := ⟨_, Lib.hid rfl⟩
    have hPh : Hid (hashes P) := Lib.hid (by rw [hP.out]; exact pathL_hashes _ ms i2 rfl hmh.out)
    have hq9 : q ≤ 9 := by rw [hq.out, hP.out, pathL_sides ms i2 HIM.out, lm.out]; exact sides_length 9 i2 (300 - 1) (by omega)
    have hwq : IntKind.i64.wrap (q : Int) = (q : Int) := by rw [IntKind.wrap_i64]; omega
    have KF : Hid (checkF x (i2 : Int) (300 : Int) P rt = 0) := Lib.hid (by
      have := checkF_path (ls := ms) (i := i2) HIM.out (by rw [lm.out]; omega)
      rw [lm.out, ← hP.out, ← hx.out, ← hrt.out] at this; exact this)
    have RR : Hid (∀ W, HW W (some ⟨g, 0, none⟩) ms → Tab W → Calls Tryd.prog 29 #[.slice (some ⟨g, 0, none⟩) 300 c2] W fun ev w' => ev = .returned (.agg R) ∧ Below W.heap.size W w') := Lib.hid fun W h1 h2 => by
      have := root_any ms hmh.out (some ⟨g, 0, none⟩) c2 W h1 h2 (by rw [lm.out]; omega)
      rwa [lm.out, ← hrt.out, ← hR.out] at this
    have PP : Hid (∀ W, HW W (some ⟨g, 0, none⟩) ms → Calls Tryd.prog 33 #[.slice (some ⟨g, 0, none⟩) 300 c2, .int .i64 (i2 : Int)] W fun e w' => ∃ A' c', e = .returned (.tuple #[.slice A' q c', .int .i64 0]) ∧ (q ≤ c' ∧ c' ≤ maxLen) ∧ HW w' A' P ∧ Below W.heap.size W w') := Lib.hid fun W h1 => by
      have := refPath_any ms hmh.out (some ⟨g, 0, none⟩) c2 W h1 (by rw [lm.out]; exact hmc.out.1) hmc.out.2 (i2 : Int)
      rw [pathF_ok HIM.out, ← hP.out, lm.out] at this
      refine this.mono ?_
      rintro e w' ⟨A', c', he, h4, h5, h6, h7⟩
      exact ⟨A', c', by rw [hq.out]; exact he, ⟨by rw [hq.out]; exact h4, h5⟩, h6, h7⟩
    have HM62 := Lib.hid HM6.out.2
    go_upto_region 12 with (go_at_call 33; (with_reducible refine (PP.out _ HM62.out).mono ?_); rintro e w7 ⟨Ap, cp, rfl, hcp, hA, hb⟩; have H7 : Hid (CkH w CL O A ps w7 ∧ HW w7 (some ⟨g, 0, none⟩) ms ∧ HW w7 Ap P) := Lib.hid ⟨HM6.out.1.next hb, HM62.out.next hb, hA⟩; have HCP := Lib.hid hcp; clear hb hA hcp)
    have H7a := Lib.hid H7.out.2.1
    have H7t := Lib.hid H7.out.1.tab
    go_upto_region 13 with (go_at_call 29; (with_reducible refine (RR.out _ H7a.out H7t.out).mono ?_); rintro e w8 ⟨rfl, hb⟩; obtain ⟨w9, s9, hr9, hb9, hz9⟩ := made_write w8 R zR.out oR.out; have H9 : Hid (CxH w CL O A ps w8.heap.size g R Ap ms P w9) := Lib.hid ⟨(H7.out.1.next hb).next hb9, hr9, (H7a.out.next hb).next hb9, (H7.out.2.2.next hb).next hb9⟩; clear hr9 hb9 hz9 hb)
    clear s9 H7 H7a H7t HM6 HM62 RR PP
    obtain ⟨g12, hg12⟩ : ∃ g12, w8.heap.size = g12 := ⟨_, rfl⟩
    rw [hg12] at H9 ⊢
    clear hg12
    have hcp1 : cp ≤ 9223372036854775807 := by have := HCP.out.2; unfold maxLen at this; omega
    have hcp2 : q ≤ cp := HCP.out.1
    have RX : Hid (∀ W, CxH w CL O A ps g12 g R Ap ms P W → (readAt (.pointer (some ⟨g, i2 * 32, none⟩))).run Tryd.prog W = .ok (.agg X) W) := Lib.hid fun W hW => by
      rw [hX.out, hx.out, ← add_flat]; exact HL.read hW.ls hmh.out i2 HIM.out
    have hin : -9223372036854775808 ≤ (i2 : Int) ∧ (i2 : Int) ≤ 9223372036854775807 := by omega
    have hnn : -9223372036854775808 ≤ (300 : Int) ∧ (300 : Int) ≤ 9223372036854775807 := by omega
    have HIN := Lib.hid (And.intro hin hnn)
    clear hin hnn
    obtain ⟨E5, hE5⟩ : ∃ E, Hid (E = checkF leaf (i2 : Int) (300 : Int) P rt) := ⟨_, Lib.hid rfl⟩
    obtain ⟨E6, hE6⟩ : ∃ E, Hid (E = checkF x (i2 : Int) (300 : Int) ps rt) := ⟨_, Lib.hid rfl⟩
    have C4p : Hid (∀ W, CxH w CL O A ps g12 g R Ap ms P W → Calls Tryd.prog 34 #[.agg X, .int .i64 (i2 : Int), .int .i64 (300 : Int), .slice Ap q cp, .agg R] W fun e w' => e = .returned (.int .i64 0) ∧ Below W.heap.size W w') := Lib.hid fun W hW => by
      have := CP.out W Ap cp (i2 : Int) (300 : Int) x rt P X R q hW.path hW.ck.tab hPh.out hq.out.symm HIN.out.1 HIN.out.2 HCP.out hX.out hR.out hx32.out hrt32.out
      rwa [KF.out] at this
    have C5p : Hid (∀ W, CxH w CL O A ps g12 g R Ap ms P W → Calls Tryd.prog 34 #[.agg LF, .int .i64 (i2 : Int), .int .i64 (300 : Int), .slice Ap q cp, .agg R] W fun e w' => e = .returned (.int .i64 E5) ∧ Below W.heap.size W w') := Lib.hid fun W hW => by
      rw [hE5.out]; exact CP.out W Ap cp (i2 : Int) (300 : Int) leaf rt P LF R q hW.path hW.ck.tab hPh.out hq.out.symm HIN.out.1 HIN.out.2 HCP.out hLF.out hR.out H32.out.1 hrt32.out
    have C5r : Hid (∀ W, CxH w CL O A ps g12 g R Ap ms P W → Calls Tryd.prog 35 #[.agg LF, .int .i64 (i2 : Int), .int .i64 (300 : Int), .slice Ap q cp, .agg R] W fun e w' => e = .returned (.int .i64 E5) ∧ Below W.heap.size W w') := Lib.hid fun W hW => by
      rw [hE5.out]; exact CR.out W Ap cp (i2 : Int) (300 : Int) leaf rt P LF R q hW.path hPh.out hq.out.symm HIN.out.1 HIN.out.2 HCP.out hLF.out hR.out H32.out.1 hrt32.out
    have C6p : Hid (∀ W, CxH w CL O A ps g12 g R Ap ms P W → Calls Tryd.prog 34 #[.agg X, .int .i64 (i2 : Int), .int .i64 (300 : Int), .slice A pl c, .agg R] W fun e w' => e = .returned (.int .i64 E6) ∧ Below W.heap.size W w') := Lib.hid fun W hW => by
      rw [hE6.out]; exact CP.out W A c (i2 : Int) (300 : Int) x rt ps X R pl hW.ck.ps hW.ck.tab HPS.out hpl.out.symm HIN.out.1 HIN.out.2 (by rw [hpl.out]; exact HCA.out) hX.out hR.out hx32.out hrt32.out
    have C6r : Hid (∀ W, CxH w CL O A ps g12 g R Ap ms P W → Calls Tryd.prog 35 #[.agg X, .int .i64 (i2 : Int), .int .i64 (300 : Int), .slice A pl c, .agg R] W fun e w' => e = .returned (.int .i64 E6) ∧ Below W.heap.size W w') := Lib.hid fun W hW => by
      rw [hE6.out]; exact CR.out W A c (i2 : Int) (300 : Int) x rt ps X R pl hW.ck.ps HPS.out hpl.out.symm HIN.out.1 HIN.out.2 (by rw [hpl.out]; exact HCA.out) hX.out hR.out hx32.out hrt32.out
    have e55 : ((E5 : Int) != E5) = false := by simp
    have e66 : ((E6 : Int) != E6) = false := by simp
    have HOt := H9
    clear H9
    refine wp_region_fk (Below w9.heap.size w9) (.get 0 (.get 1 (.get 2 (.get 3 (.get 4 (.get 5 (.get 6 (.get 7 (.call 8 (.get 9 (.get 10 (.get 11 (.get 12 (.get 13 (.get 14 (.get 15 (.get 16 (.get 18 (.get 19 (.get 20 (.get 21 (.get 22 (.get 23 (.call 17 (.call 24 (.get 25 (.get 26 (.get 27 (.get 28 (.get 29 (.get 30 (.get 31 (.get 32 (.get 33 (.get 34 (.get 35 (.get 37 (.get 38 (.get 39 (.get 40 (.get 41 (.get 42 (.get 43 (.get 44 (.call 36 (.call 45 (.get 46 (.get 47 .done)))))))))))))))))))))))))))))))))))))))))))))))) (by kernel_rfl) rfl (by kernel_rfl) (by kernel_rfl) (by intro c a d v w h; cases d <;> exact h) (Below.refl w9.heap.size w9).drew (fun Q' hQ => ?_)
    have HS := Lib.hid (Below.refl w9.heap.size w9).drew
    have HQ := Lib.hid hQ
    clear hQ
    refine wpFk_get rfl (by rfl) (fun K hK => ?_)
    refine ⟨?_, fun w' hS' => ?_, ?_⟩
    rotate_left
    · go_simp
      try (with_reducible rfl)
    try go_simp
    refine hK _ ?_
    clear hK K
    refine wpFk_get rfl (by rfl) (fun K hK => ?_)
    refine ⟨?_, fun w' hS' => ?_, ?_⟩
    rotate_left
    · go_simp
      try (with_reducible rfl)
    try go_simp
    refine hK _ ?_
    clear hK K
    refine wpFk_get rfl (by rfl) (fun K hK => ?_)
    refine ⟨?_, fun w' hS' => ?_, ?_⟩
    rotate_left
    · go_simp
      try (with_reducible rfl)
    try go_simp
    refine hK _ ?_
    clear hK K
    refine wpFk_get rfl (by rfl) (fun K hK => ?_)
    refine ⟨_, fun w' hS' => get_load rfl rfl (RX.out _ (HOt.out.next hS')), ?_⟩
    try go_simp
    refine hK _ ?_
    clear hK K
    refine wpFk_get rfl (by rfl) (fun K hK => ?_)
    refine ⟨?_, fun w' hS' => ?_, ?_⟩
    rotate_left
    · go_simp
      try (with_reducible rfl)
    try go_simp
    refine hK _ ?_
    clear hK K
    refine wpFk_get rfl (by rfl) (fun K hK => ?_)
    refine ⟨?_, fun w' hS' => ?_, ?_⟩
    rotate_left
    · go_simp
      try (with_reducible rfl)
    try go_simp
    refine hK _ ?_
    clear hK K
    refine wpFk_get rfl (by rfl) (fun K hK => ?_)
    refine ⟨?_, fun w' hS' => ?_, ?_⟩
    rotate_left
    · go_simp
      try (with_reducible rfl)
    try go_simp
    refine hK _ ?_
    clear hK K
    refine wpFk_get rfl (by rfl) (fun K hK => ?_)
    refine ⟨_, fun w' hS' => get_load rfl rfl ((HOt.out.next hS').rt.read zR.out), ?_⟩
    try go_simp
    refine hK _ ?_
    clear hK K
    refine wpFk_call rfl (by rfl) (fun K hK => ?_)
    go_simp
    go_at_call 34
    refine (C4p.out _ (HOt.out.next HS.out)).mono ?_
    rintro e w2x ⟨rfl, hb⟩
    replace HS := Lib.hid (below_new HS.out hb)
    clear hb
    refine hK _ _ HS.out ?_
    clear hK K
    refine wpFk_get rfl (by rfl) (fun K hK => ?_)
    refine ⟨?_, fun w' hS' => ?_, ?_⟩
    rotate_left
    · go_simp
      try (with_reducible rfl)
    try go_simp
    refine hK _ ?_
    clear hK K
    refine wpFk_get rfl (by rfl) (fun K hK => ?_)
    refine ⟨?_, fun w' hS' => ?_, ?_⟩
    rotate_left
    · go_simp
      try (with_reducible rfl)
    try go_simp
    refine hK _ ?_
    clear hK K
    refine wpFk_get rfl (by rfl) (fun K hK => ?_)
    refine ⟨?_, fun w' hS' => ?_, ?_⟩
    rotate_left
    · go_simp
      try (with_reducible rfl)
    try go_simp
    refine hK _ ?_
    clear hK K
    refine wpFk_get rfl (by rfl) (fun K hK => ?_)
    refine ⟨_, fun w' hS' => get_load rfl rfl (RC.out _ (HOt.out.next hS').ck).1, ?_⟩
    try go_simp
    refine hK _ ?_
    clear hK K
    refine wpFk_get rfl (by rfl) (fun K hK => ?_)
    refine ⟨?_, fun w' hS' => ?_, ?_⟩
    rotate_left
    · go_simp
      try (with_reducible rfl)
    try go_simp
    refine hK _ ?_
    clear hK K
    refine wpFk_get rfl (by rfl) (fun K hK => ?_)
    refine ⟨?_, fun w' hS' => ?_, ?_⟩
    rotate_left
    · go_simp
      try (with_reducible rfl)
    try go_simp
    refine hK _ ?_
    clear hK K
    refine wpFk_get rfl (by rfl) (fun K hK => ?_)
    refine ⟨?_, fun w' hS' => ?_, ?_⟩
    rotate_left
    · go_simp
      try (with_reducible rfl)
    try go_simp
    refine hK _ ?_
    clear hK K
    refine wpFk_get rfl (by rfl) (fun K hK => ?_)
    refine ⟨_, fun w' hS' => get_load rfl rfl ((HOt.out.next hS').rt.read zR.out), ?_⟩
    try go_simp
    refine hK _ ?_
    clear hK K
    refine wpFk_get rfl (by rfl) (fun K hK => ?_)
    refine ⟨?_, fun w' hS' => ?_, ?_⟩
    rotate_left
    · go_simp
      try (with_reducible rfl)
    try go_simp
    refine hK _ ?_
    clear hK K
    refine wpFk_get rfl (by rfl) (fun K hK => ?_)
    refine ⟨_, fun w' hS' => get_load rfl rfl (RC.out _ (HOt.out.next hS').ck).1, ?_⟩
    try go_simp
    refine hK _ ?_
    clear hK K
    refine wpFk_get rfl (by rfl) (fun K hK => ?_)
    refine ⟨?_, fun w' hS' => ?_, ?_⟩
    rotate_left
    · go_simp
      try (with_reducible rfl)
    try go_simp
    refine hK _ ?_
    clear hK K
    refine wpFk_get rfl (by rfl) (fun K hK => ?_)
    refine ⟨?_, fun w' hS' => ?_, ?_⟩
    rotate_left
    · go_simp
      try (with_reducible rfl)
    try go_simp
    refine hK _ ?_
    clear hK K
    refine wpFk_get rfl (by rfl) (fun K hK => ?_)
    refine ⟨?_, fun w' hS' => ?_, ?_⟩
    rotate_left
    · go_simp
      try (with_reducible rfl)
    try go_simp
    refine hK _ ?_
    clear hK K
    refine wpFk_get rfl (by rfl) (fun K hK => ?_)
    refine ⟨_, fun w' hS' => get_load rfl rfl ((HOt.out.next hS').rt.read zR.out), ?_⟩
    try go_simp
    refine hK _ ?_
    clear hK K
    refine wpFk_call rfl (by rfl) (fun K hK => ?_)
    go_simp
    go_at_call 34
    refine (C5p.out _ (HOt.out.next HS.out)).mono ?_
    rintro e w2x ⟨rfl, hb⟩
    replace HS := Lib.hid (below_new HS.out hb)
    clear hb
    refine hK _ _ HS.out ?_
    clear hK K
    refine wpFk_call rfl (by rfl) (fun K hK => ?_)
    go_simp
    go_at_call 35
    refine (C5r.out _ (HOt.out.next HS.out)).mono ?_
    rintro e w2x ⟨rfl, hb⟩
    replace HS := Lib.hid (below_new HS.out hb)
    clear hb
    refine hK _ _ HS.out ?_
    clear hK K
    refine wpFk_get rfl (by rfl) (fun K hK => ?_)
    refine ⟨?_, fun w' hS' => ?_, ?_⟩
    rotate_left
    · go_simp
      try (with_reducible rfl)
    try go_simp
    refine hK _ ?_
    clear hK K
    refine wpFk_get rfl (by rfl) (fun K hK => ?_)
    refine ⟨?_, fun w' hS' => ?_, ?_⟩
    rotate_left
    · go_simp
      try (with_reducible rfl)
    try go_simp
    refine hK _ ?_
    clear hK K
    refine wpFk_get rfl (by rfl) (fun K hK => ?_)
    refine ⟨?_, fun w' hS' => ?_, ?_⟩
    rotate_left
    · go_simp
      try (with_reducible rfl)
    try go_simp
    refine hK _ ?_
    clear hK K
    refine wpFk_get rfl (by rfl) (fun K hK => ?_)
    refine ⟨?_, fun w' hS' => ?_, ?_⟩
    rotate_left
    · go_simp
      try (with_reducible rfl)
    try go_simp
    refine hK _ ?_
    clear hK K
    refine wpFk_get rfl (by rfl) (fun K hK => ?_)
    refine ⟨?_, fun w' hS' => ?_, ?_⟩
    rotate_left
    · go_simp
      try (with_reducible rfl)
    try go_simp
    refine hK _ ?_
    clear hK K
    refine wpFk_get rfl (by rfl) (fun K hK => ?_)
    refine ⟨?_, fun w' hS' => ?_, ?_⟩
    rotate_left
    · go_simp
      try (with_reducible rfl)
    try go_simp
    refine hK _ ?_
    clear hK K
    refine wpFk_get rfl (by rfl) (fun K hK => ?_)
    refine ⟨_, fun w' hS' => get_load rfl rfl (RX.out _ (HOt.out.next hS')), ?_⟩
    try go_simp
    refine hK _ ?_
    clear hK K
    refine wpFk_get rfl (by rfl) (fun K hK => ?_)
    refine ⟨?_, fun w' hS' => ?_, ?_⟩
    rotate_left
    · go_simp
      try (with_reducible rfl)
    try go_simp
    refine hK _ ?_
    clear hK K
    refine wpFk_get rfl (by rfl) (fun K hK => ?_)
    refine ⟨?_, fun w' hS' => ?_, ?_⟩
    rotate_left
    · go_simp
      try (with_reducible rfl)
    try go_simp
    refine hK _ ?_
    clear hK K
    refine wpFk_get rfl (by rfl) (fun K hK => ?_)
    refine ⟨?_, fun w' hS' => ?_, ?_⟩
    rotate_left
    · go_simp
      try (with_reducible rfl)
    try go_simp
    refine hK _ ?_
    clear hK K
    refine wpFk_get rfl (by rfl) (fun K hK => ?_)
    refine ⟨_, fun w' hS' => get_load rfl rfl ((HOt.out.next hS').rt.read zR.out), ?_⟩
    try go_simp
    refine hK _ ?_
    clear hK K
    refine wpFk_get rfl (by rfl) (fun K hK => ?_)
    refine ⟨?_, fun w' hS' => ?_, ?_⟩
    rotate_left
    · go_simp
      try (with_reducible rfl)
    try go_simp
    refine hK _ ?_
    clear hK K
    refine wpFk_get rfl (by rfl) (fun K hK => ?_)
    refine ⟨?_, fun w' hS' => ?_, ?_⟩
    rotate_left
    · go_simp
      try (with_reducible rfl)
    try go_simp
    refine hK _ ?_
    clear hK K
    refine wpFk_get rfl (by rfl) (fun K hK => ?_)
    refine ⟨?_, fun w' hS' => ?_, ?_⟩
    rotate_left
    · go_simp
      try (with_reducible rfl)
    try go_simp
    refine hK _ ?_
    clear hK K
    refine wpFk_get rfl (by rfl) (fun K hK => ?_)
    refine ⟨_, fun w' hS' => get_load rfl rfl (RX.out _ (HOt.out.next hS')), ?_⟩
    try go_simp
    refine hK _ ?_
    clear hK K
    refine wpFk_get rfl (by rfl) (fun K hK => ?_)
    refine ⟨?_, fun w' hS' => ?_, ?_⟩
    rotate_left
    · go_simp
      try (with_reducible rfl)
    try go_simp
    refine hK _ ?_
    clear hK K
    refine wpFk_get rfl (by rfl) (fun K hK => ?_)
    refine ⟨?_, fun w' hS' => ?_, ?_⟩
    rotate_left
    · go_simp
      try (with_reducible rfl)
    try go_simp
    refine hK _ ?_
    clear hK K
    refine wpFk_get rfl (by rfl) (fun K hK => ?_)
    refine ⟨?_, fun w' hS' => ?_, ?_⟩
    rotate_left
    · go_simp
      try (with_reducible rfl)
    try go_simp
    refine hK _ ?_
    clear hK K
    refine wpFk_get rfl (by rfl) (fun K hK => ?_)
    refine ⟨_, fun w' hS' => get_load rfl rfl ((HOt.out.next hS').rt.read zR.out), ?_⟩
    try go_simp
    refine hK _ ?_
    clear hK K
    refine wpFk_call rfl (by rfl) (fun K hK => ?_)
    go_simp
    go_at_call 34
    refine (C6p.out _ (HOt.out.next HS.out)).mono ?_
    rintro e w2x ⟨rfl, hb⟩
    replace HS := Lib.hid (below_new HS.out hb)
    clear hb
    refine hK _ _ HS.out ?_
    clear hK K
    refine wpFk_call rfl (by rfl) (fun K hK => ?_)
    go_simp
    go_at_call 35
    refine (C6r.out _ (HOt.out.next HS.out)).mono ?_
    rintro e w2x ⟨rfl, hb⟩
    replace HS := Lib.hid (below_new HS.out hb)
    clear hb
    refine hK _ _ HS.out ?_
    clear hK K
    refine wpFk_get rfl (by rfl) (fun K hK => ?_)
    refine ⟨?_, fun w' hS' => ?_, ?_⟩
    rotate_left
    · go_simp
      try (with_reducible rfl)
    try go_simp
    refine hK _ ?_
    clear hK K
    refine wpFk_get rfl (by rfl) (fun K hK => ?_)
    refine ⟨?_, fun w' hS' => ?_, ?_⟩
    rotate_left
    · go_simp
      try (with_reducible rfl)
    try go_simp
    refine hK _ ?_
    clear hK K
    refine wpFk_done ?_
    refine HQ.out _ _ ?_
    go_wp2
    have H9 := Lib.hid (HOt.out.next HS.out)
    clear HOt HS HQ C4p C5p C5r C6p C6r e55 e66
    go_loopw [13] (fun s13 wr => ∃ k : Nat, s13 = .int .i64 (k : Int) ∧ k ≤ q ∧ Hid (CxH w CL O A ps g12 g R Ap ms P wr)) (fun s13 _ => (q - intOf s13).toNat)
    case atStart => exact ⟨0, rfl, by omega, H9⟩
    case round =>
      clear H9
      obtain ⟨k, rfl, hkq, HO⟩ := hrel
      by_cases hlt : k < q
      · have d7 : (k : Int) < (q : Int) := by omega
        have hkl : k < P.length := by rw [← hq.out]; exact hlt
        have hwk : IntKind.i64.wrap (k : Int) = (k : Int) := by rw [IntKind.wrap_i64]; omega
        obtain ⟨pd, rfl⟩ := HO.out.path.some k hkl
        have hqsm : Hid (q ≤ 8192) := Lib.hid (by omega)
        have HO2 := Lib.hid HO.out.path
        go_upto_region 19 with (at_builtin; refine wpList_appendC rfl (.const (.slice none 0 0)) (.tmp 122) rfl wr.heap.size P rfl (some pd) q cp rfl hq.out hPh.out HO2.out hqsm.out (Nat.le_refl _) ?_; intro v1 w10 ho hg; have HOwn := Lib.hid ho; have HB10 : Hid (Below wr.heap.size wr w10) := Lib.hid ((Below.refl _ _).grown hg (Nat.le_refl _) (by intro k hk; simp at hk)); clear ho hg)
        obtain ⟨g2, c3, rfl, hg2⟩ : ∃ g2 c2, v1 = .slice (some ⟨g2, 0, none⟩) q c2 ∧ Hid ((q ≤ c2 ∧ c2 ≤ maxLen) ∧ wr.heap.size ≤ g2 ∧ w10.there g2 (k * 32) 32 ∧ HW w10 (some ⟨g2, 0, none⟩) P) := by
          obtain ⟨A, c2, e⟩ := own_form HOwn.out
          have hs := own_some (by have := HOwn.out; rw [e] at this; exact this)
          rcases hs.2.2 with ⟨_, h0⟩ | ⟨g2, rfl, h1, h2⟩
          · omega
          · have ho := HOwn.out
            rw [e] at ho
            exact ⟨g2, c2, e, Lib.hid ⟨⟨hs.1, by have := hs.2.1; unfold maxLen; omega⟩, h1, own_room ho k hlt, by rw [hq.out] at ho; exact own_HL ho hPh.out⟩⟩
        have hc3 : q ≤ c3 := hg2.out.1.1
        have HO5 := Lib.hid (HO.out.next HB10.out)
        have s1 : (readAt (.pointer (some ⟨w.heap.size + 1, 0, none⟩))).run Tryd.prog w10 = .ok (.agg O) w10 := HO5.out.ck.ot.read zO.out
        have ht : w10.there g2 (k * 32) O.size := by rw [zO.out]; exact hg2.out.2.2.1
        have h6 := sizeH O.size zO.out
        have HPs : Hid (HL (w10.setCells g2 (k * 32) O.toList) w10.heap.size (some ⟨g2, 0, none⟩) (P.set k ot)) := Lib.hid (by rw [hO.out]; exact HL.set hg2.out.2.2.2 k hkl ot H32.out.2.2.1 hg2.out.2.2.1)
        have HBs : Hid (Below wr.heap.size w10 (w10.setCells g2 (k * 32) O.toList)) := Lib.hid (below_setCells_w hg2.out.2.1 _ _ _)
        have HZs : Hid ((w10.setCells g2 (k * 32) O.toList).heap.size = w10.heap.size) := Lib.hid (size_setCells _ _ _ _)
        go_upto_region 20 with (first
          | (refine wpList_store_mid rfl 31 _ _ rfl g2 (k * 32) O rfl rfl ht h6 oO.out ?_)
          | (refine wpList_store_at rfl 31 _ _ rfl g2 (k * 32) O rfl rfl ht h6 oO.out ?_))
        refine world_gen (fun W => CxH w CL O A ps g12 g R (some pd) ms P W ∧ HW W (some ⟨g2, 0, none⟩) (P.set k ot)) ⟨HO.out.next (HB10.out.trans HBs.out), by unfold HW; rw [HZs.out]; exact HPs.out⟩ (fun w11 H11 => ?_)
        clear s1 ht h6 HPs HBs HZs HO5 HOwn HB10 HO HO2
        have HQs := Lib.hid H11.2
        have HOt := Lib.hid H11.1
        have hG2 := Lib.hid hg2.out.1
        clear hg2 H11
        have hPs : Hid (hashes (P.set k ot) ∧ (P.set k ot).length = q) := Lib.hid ⟨setL_hashes hPh.out k ot H32.out.2.2, by rw [List.length_set, ← hq.out]⟩
        obtain ⟨E7, hE7⟩ : ∃ E, Hid (E = checkF x (i2 : Int) (300 : Int) (P.set k ot) rt) := ⟨_, Lib.hid rfl⟩
        have e77 : ((E7 : Int) != E7) = false := by simp
        have C7p : Hid (∀ W, Below w11.heap.size w11 W → Calls Tryd.prog 34 #[.agg X, .int .i64 (i2 : Int), .int .i64 (300 : Int), .slice (some ⟨g2, 0, none⟩) q c3, .agg R] W fun e w' => e = .returned (.int .i64 E7) ∧ Below W.heap.size W w') := Lib.hid fun W hW => by
          rw [hE7.out]; exact CP.out W _ c3 (i2 : Int) (300 : Int) x rt (P.set k ot) X R q (HQs.out.next hW) (HOt.out.next hW).ck.tab hPs.out.1 hPs.out.2 HIN.out.1 HIN.out.2 hG2.out hX.out hR.out hx32.out hrt32.out
        have C7r : Hid (∀ W, Below w11.heap.size w11 W → Calls Tryd.prog 35 #[.agg X, .int .i64 (i2 : Int), .int .i64 (300 : Int), .slice (some ⟨g2, 0, none⟩) q c3, .agg R] W fun e w' => e = .returned (.int .i64 E7) ∧ Below W.heap.size W w') := Lib.hid fun W hW => by
          rw [hE7.out]; exact CR.out W _ c3 (i2 : Int) (300 : Int) x rt (P.set k ot) X R q (HQs.out.next hW) hPs.out.1 hPs.out.2 HIN.out.1 HIN.out.2 hG2.out hX.out hR.out hx32.out hrt32.out
        clear hkl
        refine wp_region_fk (Below w11.heap.size w11) (.get 0 (.get 1 (.get 2 (.get 3 (.get 4 (.get 5 (.get 6 (.get 7 (.get 9 (.get 10 (.get 11 (.get 12 (.get 13 (.get 14 (.get 15 (.get 16 (.call 8 (.call 17 (.get 18 .done))))))))))))))))))) (by kernel_rfl) rfl (by kernel_rfl) (by kernel_rfl) (by intro c a d v w h; cases d <;> exact h) (Below.refl w11.heap.size w11).drew (fun Q' hQ => ?_)
        have HS := Lib.hid (Below.refl w11.heap.size w11).drew
        have HQ := Lib.hid hQ
        clear hQ
        refine wpFk_get rfl (by rfl) (fun K hK => ?_)
        refine ⟨?_, fun w' hS' => ?_, ?_⟩
        rotate_left
        · go_simp
          try (with_reducible rfl)
        try go_simp
        refine hK _ ?_
        clear hK K
        refine wpFk_get rfl (by rfl) (fun K hK => ?_)
        refine ⟨?_, fun w' hS' => ?_, ?_⟩
        rotate_left
        · go_simp
          try (with_reducible rfl)
        try go_simp
        refine hK _ ?_
        clear hK K
        refine wpFk_get rfl (by rfl) (fun K hK => ?_)
        refine ⟨?_, fun w' hS' => ?_, ?_⟩
        rotate_left
        · go_simp
          try (with_reducible rfl)
        try go_simp
        refine hK _ ?_
        clear hK K
        refine wpFk_get rfl (by rfl) (fun K hK => ?_)
        refine ⟨_, fun w' hS' => get_load rfl rfl (RX.out _ (HOt.out.next hS')), ?_⟩
        try go_simp
        refine hK _ ?_
        clear hK K
        refine wpFk_get rfl (by rfl) (fun K hK => ?_)
        refine ⟨?_, fun w' hS' => ?_, ?_⟩
        rotate_left
        · go_simp
          try (with_reducible rfl)
        try go_simp
        refine hK _ ?_
        clear hK K
        refine wpFk_get rfl (by rfl) (fun K hK => ?_)
        refine ⟨?_, fun w' hS' => ?_, ?_⟩
        rotate_left
        · go_simp
          try (with_reducible rfl)
        try go_simp
        refine hK _ ?_
        clear hK K
        refine wpFk_get rfl (by rfl) (fun K hK => ?_)
        refine ⟨?_, fun w' hS' => ?_, ?_⟩
        rotate_left
        · go_simp
          try (with_reducible rfl)
        try go_simp
        refine hK _ ?_
        clear hK K
        refine wpFk_get rfl (by rfl) (fun K hK => ?_)
        refine ⟨_, fun w' hS' => get_load rfl rfl ((HOt.out.next hS').rt.read zR.out), ?_⟩
        try go_simp
        refine hK _ ?_
        clear hK K
        refine wpFk_get rfl (by rfl) (fun K hK => ?_)
        refine ⟨?_, fun w' hS' => ?_, ?_⟩
        rotate_left
        · go_simp
          try (with_reducible rfl)
        try go_simp
        refine hK _ ?_
        clear hK K
        refine wpFk_get rfl (by rfl) (fun K hK => ?_)
        refine ⟨?_, fun w' hS' => ?_, ?_⟩
        rotate_left
        · go_simp
          try (with_reducible rfl)
        try go_simp
        refine hK _ ?_
        clear hK K
        refine wpFk_get rfl (by rfl) (fun K hK => ?_)
        refine ⟨?_, fun w' hS' => ?_, ?_⟩
        rotate_left
        · go_simp
          try (with_reducible rfl)
        try go_simp
        refine hK _ ?_
        clear hK K
        refine wpFk_get rfl (by rfl) (fun K hK => ?_)
        refine ⟨_, fun w' hS' => get_load rfl rfl (RX.out _ (HOt.out.next hS')), ?_⟩
        try go_simp
        refine hK _ ?_
        clear hK K
        refine wpFk_get rfl (by rfl) (fun K hK => ?_)
        refine ⟨?_, fun w' hS' => ?_, ?_⟩
        rotate_left
        · go_simp
          try (with_reducible rfl)
        try go_simp
        refine hK _ ?_
        clear hK K
        refine wpFk_get rfl (by rfl) (fun K hK => ?_)
        refine ⟨?_, fun w' hS' => ?_, ?_⟩
        rotate_left
        · go_simp
          try (with_reducible rfl)
        try go_simp
        refine hK _ ?_
        clear hK K
        refine wpFk_get rfl (by rfl) (fun K hK => ?_)
        refine ⟨?_, fun w' hS' => ?_, ?_⟩
        rotate_left
        · go_simp
          try (with_reducible rfl)
        try go_simp
        refine hK _ ?_
        clear hK K
        refine wpFk_get rfl (by rfl) (fun K hK => ?_)
        refine ⟨_, fun w' hS' => get_load rfl rfl ((HOt.out.next hS').rt.read zR.out), ?_⟩
        try go_simp
        refine hK _ ?_
        clear hK K
        refine wpFk_call rfl (by rfl) (fun K hK => ?_)
        go_simp
        go_at_call 34
        refine (C7p.out _ HS.out).mono ?_
        rintro e w2x ⟨rfl, hb⟩
        replace HS := Lib.hid (below_new HS.out hb)
        clear hb
        refine hK _ _ HS.out ?_
        clear hK K
        refine wpFk_call rfl (by rfl) (fun K hK => ?_)
        go_simp
        go_at_call 35
        refine (C7r.out _ HS.out).mono ?_
        rintro e w2x ⟨rfl, hb⟩
        replace HS := Lib.hid (below_new HS.out hb)
        clear hb
        refine hK _ _ HS.out ?_
        clear hK K
        refine wpFk_get rfl (by rfl) (fun K hK => ?_)
        refine ⟨?_, fun w' hS' => ?_, ?_⟩
        rotate_left
        · go_simp
          try (with_reducible rfl)
        try go_simp
        refine hK _ ?_
        clear hK K
        refine wpFk_done ?_
        refine HQ.out _ _ ?_
        go_wp2
        go_roundw
        case rel => exact ⟨k + 1, by go_num, by omega, Lib.hid (HOt.out.next HS.out)⟩
        case measure => simp [intOf]; omega
      · have HTB := Lib.hid HO.out.ck.tab
        have HBB := Lib.hid HO.out.ck.below
        go_wp2_with (go_at_call 31; (with_reducible refine (found_any _ HTB.out).mono ?_); rintro e w12 ⟨rfl, hb⟩; have HB12 := Lib.hid (below_new HBB.out hb); clear hb)
        go_ret
        exact ⟨rfl, HB12.out⟩
  · have d4 : decide (300 < (n : Int)) = false := decide_eq_false (by omega)
    have d5 : ¬ (300 : Int) < (n : Int) := by omega
    have lm := ll
    have hmh := HHs
    have HM6 := H6
    have hmc := HC2
    clear H6
    have d6 : (i : Int) < (n : Int) := by omega
    have hwi : IntKind.i64.wrap (i : Int) = (i : Int) := by rw [IntKind.wrap_i64]; omega
    have hwn : IntKind.i64.wrap (n : Int) = (n : Int) := by rw [IntKind.wrap_i64]; omega
    have HIM : Hid (i < ls.length) := Lib.hid (by rw [lm.out]; omega)
    obtain ⟨x, hx⟩ : ∃ x, Hid (x = ls.getD i []) := ⟨_, Lib.hid rfl⟩
    obtain ⟨rt, hrt⟩ : ∃ r, Hid (r = rootL ls) := ⟨_, Lib.hid rfl⟩
    have hx32 : Hid (x.length = 32 ∧ bytes x) := Lib.hid (by rw [hx.out]; exact hashes_at hmh.out i HIM.out)
    have hrt32 : Hid (rt.length = 32 ∧ bytes rt) := Lib.hid (by rw [hrt.out]; exact rootL_is _ hmh.out)
    obtain ⟨R, hR⟩ : ∃ R, Hid (R = nums .u8 rt) := ⟨_, Lib.hid rfl⟩
    obtain ⟨X, hX⟩ : ∃ X, Hid (X = nums .u8 x) := ⟨_, Lib.hid rfl⟩
    have zR : Hid (R.size = 32) := Lib.hid (by rw [hR.out, nums_size]; exact hrt32.out.1)
    have oR : Hid (R.all (·.oneCell') = true) := Lib.hid (by rw [hR.out]; exact nums_one _ _)
    obtain ⟨P, hP⟩ : ∃ P, Hid (P = pathL ls i) := ⟨_, Lib.hid rfl⟩
    obtain ⟨q, hq⟩ : ∃ q, Hid (q = P.length) := ⟨_, Lib.hid rfl⟩
    have hPh : Hid (hashes P) := Lib.hid (by rw [hP.out]; exact pathL_hashes _ ls i rfl hmh.out)
    have hq9 : q ≤ 9 := by rw [hq.out, hP.out, pathL_sides ls i HIM.out, lm.out]; exact sides_length 9 i (n - 1) (by omega)
    have hwq : IntKind.i64.wrap (q : Int) = (q : Int) := by rw [IntKind.wrap_i64]; omega
    have KF : Hid (checkF x (i : Int) (n : Int) P rt = 0) := Lib.hid (by
      have := checkF_path (ls := ls) (i := i) HIM.out (by rw [lm.out]; omega)
      rw [lm.out, ← hP.out, ← hx.out, ← hrt.out] at this; exact this)
    have RR : Hid (∀ W, HW W (some ⟨g, 0, none⟩) ls → Tab W → Calls Tryd.prog 29 #[.slice (some ⟨g, 0, none⟩) n c2] W fun ev w' => ev = .returned (.agg R) ∧ Below W.heap.size W w') := Lib.hid fun W h1 h2 => by
      have := root_any ls hmh.out (some ⟨g, 0, none⟩) c2 W h1 h2 (by rw [lm.out]; omega)
      rwa [lm.out, ← hrt.out, ← hR.out] at this
    have PP : Hid (∀ W, HW W (some ⟨g, 0, none⟩) ls → Calls Tryd.prog 33 #[.slice (some ⟨g, 0, none⟩) n c2, .int .i64 (i : Int)] W fun e w' => ∃ A' c', e = .returned (.tuple #[.slice A' q c', .int .i64 0]) ∧ (q ≤ c' ∧ c' ≤ maxLen) ∧ HW w' A' P ∧ Below W.heap.size W w') := Lib.hid fun W h1 => by
      have := refPath_any ls hmh.out (some ⟨g, 0, none⟩) c2 W h1 (by rw [lm.out]; exact hmc.out.1) hmc.out.2 (i : Int)
      rw [pathF_ok HIM.out, ← hP.out, lm.out] at this
      refine this.mono ?_
      rintro e w' ⟨A', c', he, h4, h5, h6, h7⟩
      exact ⟨A', c', by rw [hq.out]; exact he, ⟨by rw [hq.out]; exact h4, h5⟩, h6, h7⟩
    have HM62 := Lib.hid HM6.out.2
    go_upto_region 12 with (go_at_call 33; (with_reducible refine (PP.out _ HM62.out).mono ?_); rintro e w7 ⟨Ap, cp, rfl, hcp, hA, hb⟩; have H7 : Hid (CkH w CL O A ps w7 ∧ HW w7 (some ⟨g, 0, none⟩) ls ∧ HW w7 Ap P) := Lib.hid ⟨HM6.out.1.next hb, HM62.out.next hb, hA⟩; have HCP := Lib.hid hcp; clear hb hA hcp)
    have H7a := Lib.hid H7.out.2.1
    have H7t := Lib.hid H7.out.1.tab
    go_upto_region 13 with (go_at_call 29; (with_reducible refine (RR.out _ H7a.out H7t.out).mono ?_); rintro e w8 ⟨rfl, hb⟩; obtain ⟨w9, s9, hr9, hb9, hz9⟩ := made_write w8 R zR.out oR.out; have H9 : Hid (CxH w CL O A ps w8.heap.size g R Ap ls P w9) := Lib.hid ⟨(H7.out.1.next hb).next hb9, hr9, (H7a.out.next hb).next hb9, (H7.out.2.2.next hb).next hb9⟩; clear hr9 hb9 hz9 hb)
    clear s9 H7 H7a H7t HM6 HM62 RR PP
    obtain ⟨g12, hg12⟩ : ∃ g12, w8.heap.size = g12 := ⟨_, rfl⟩
    rw [hg12] at H9 ⊢
    clear hg12
    have hcp1 : cp ≤ 9223372036854775807 := by have := HCP.out.2; unfold maxLen at this; omega
    have hcp2 : q ≤ cp := HCP.out.1
    have RX : Hid (∀ W, CxH w CL O A ps g12 g R Ap ls P W → (readAt (.pointer (some ⟨g, i * 32, none⟩))).run Tryd.prog W = .ok (.agg X) W) := Lib.hid fun W hW => by
      rw [hX.out, hx.out, ← add_flat]; exact HL.read hW.ls hmh.out i HIM.out
    have hin : -9223372036854775808 ≤ (i : Int) ∧ (i : Int) ≤ 9223372036854775807 := by omega
    have hnn : -9223372036854775808 ≤ (n : Int) ∧ (n : Int) ≤ 9223372036854775807 := by omega
    have HIN := Lib.hid (And.intro hin hnn)
    clear hin hnn
    obtain ⟨E5, hE5⟩ : ∃ E, Hid (E = checkF leaf (i : Int) (n : Int) P rt) := ⟨_, Lib.hid rfl⟩
    obtain ⟨E6, hE6⟩ : ∃ E, Hid (E = checkF x (i : Int) (n : Int) ps rt) := ⟨_, Lib.hid rfl⟩
    have C4p : Hid (∀ W, CxH w CL O A ps g12 g R Ap ls P W → Calls Tryd.prog 34 #[.agg X, .int .i64 (i : Int), .int .i64 (n : Int), .slice Ap q cp, .agg R] W fun e w' => e = .returned (.int .i64 0) ∧ Below W.heap.size W w') := Lib.hid fun W hW => by
      have := CP.out W Ap cp (i : Int) (n : Int) x rt P X R q hW.path hW.ck.tab hPh.out hq.out.symm HIN.out.1 HIN.out.2 HCP.out hX.out hR.out hx32.out hrt32.out
      rwa [KF.out] at this
    have C5p : Hid (∀ W, CxH w CL O A ps g12 g R Ap ls P W → Calls Tryd.prog 34 #[.agg LF, .int .i64 (i : Int), .int .i64 (n : Int), .slice Ap q cp, .agg R] W fun e w' => e = .returned (.int .i64 E5) ∧ Below W.heap.size W w') := Lib.hid fun W hW => by
      rw [hE5.out]; exact CP.out W Ap cp (i : Int) (n : Int) leaf rt P LF R q hW.path hW.ck.tab hPh.out hq.out.symm HIN.out.1 HIN.out.2 HCP.out hLF.out hR.out H32.out.1 hrt32.out
    have C5r : Hid (∀ W, CxH w CL O A ps g12 g R Ap ls P W → Calls Tryd.prog 35 #[.agg LF, .int .i64 (i : Int), .int .i64 (n : Int), .slice Ap q cp, .agg R] W fun e w' => e = .returned (.int .i64 E5) ∧ Below W.heap.size W w') := Lib.hid fun W hW => by
      rw [hE5.out]; exact CR.out W Ap cp (i : Int) (n : Int) leaf rt P LF R q hW.path hPh.out hq.out.symm HIN.out.1 HIN.out.2 HCP.out hLF.out hR.out H32.out.1 hrt32.out
    have C6p : Hid (∀ W, CxH w CL O A ps g12 g R Ap ls P W → Calls Tryd.prog 34 #[.agg X, .int .i64 (i : Int), .int .i64 (n : Int), .slice A pl c, .agg R] W fun e w' => e = .returned (.int .i64 E6) ∧ Below W.heap.size W w') := Lib.hid fun W hW => by
      rw [hE6.out]; exact CP.out W A c (i : Int) (n : Int) x rt ps X R pl hW.ck.ps hW.ck.tab HPS.out hpl.out.symm HIN.out.1 HIN.out.2 (by rw [hpl.out]; exact HCA.out) hX.out hR.out hx32.out hrt32.out
    have C6r : Hid (∀ W, CxH w CL O A ps g12 g R Ap ls P W → Calls Tryd.prog 35 #[.agg X, .int .i64 (i : Int), .int .i64 (n : Int), .slice A pl c, .agg R] W fun e w' => e = .returned (.int .i64 E6) ∧ Below W.heap.size W w') := Lib.hid fun W hW => by
      rw [hE6.out]; exact CR.out W A c (i : Int) (n : Int) x rt ps X R pl hW.ck.ps HPS.out hpl.out.symm HIN.out.1 HIN.out.2 (by rw [hpl.out]; exact HCA.out) hX.out hR.out hx32.out hrt32.out
    have e55 : ((E5 : Int) != E5) = false := by simp
    have e66 : ((E6 : Int) != E6) = false := by simp
    have HOt := H9
    clear H9
    refine wp_region_fk (Below w9.heap.size w9) (.get 0 (.get 1 (.get 2 (.get 3 (.get 4 (.get 5 (.get 6 (.get 7 (.call 8 (.get 9 (.get 10 (.get 11 (.get 12 (.get 13 (.get 14 (.get 15 (.get 16 (.get 18 (.get 19 (.get 20 (.get 21 (.get 22 (.get 23 (.call 17 (.call 24 (.get 25 (.get 26 (.get 27 (.get 28 (.get 29 (.get 30 (.get 31 (.get 32 (.get 33 (.get 34 (.get 35 (.get 37 (.get 38 (.get 39 (.get 40 (.get 41 (.get 42 (.get 43 (.get 44 (.call 36 (.call 45 (.get 46 (.get 47 .done)))))))))))))))))))))))))))))))))))))))))))))))) (by kernel_rfl) rfl (by kernel_rfl) (by kernel_rfl) (by intro c a d v w h; cases d <;> exact h) (Below.refl w9.heap.size w9).drew (fun Q' hQ => ?_)
    have HS := Lib.hid (Below.refl w9.heap.size w9).drew
    have HQ := Lib.hid hQ
    clear hQ
    refine wpFk_get rfl (by rfl) (fun K hK => ?_)
    refine ⟨?_, fun w' hS' => ?_, ?_⟩
    rotate_left
    · go_simp
      try (with_reducible rfl)
    try go_simp
    refine hK _ ?_
    clear hK K
    refine wpFk_get rfl (by rfl) (fun K hK => ?_)
    refine ⟨?_, fun w' hS' => ?_, ?_⟩
    rotate_left
    · go_simp
      try (with_reducible rfl)
    try go_simp
    refine hK _ ?_
    clear hK K
    refine wpFk_get rfl (by rfl) (fun K hK => ?_)
    refine ⟨?_, fun w' hS' => ?_, ?_⟩
    rotate_left
    · go_simp
      try (with_reducible rfl)
    try go_simp
    refine hK _ ?_
    clear hK K
    refine wpFk_get rfl (by rfl) (fun K hK => ?_)
    refine ⟨_, fun w' hS' => get_load rfl rfl (RX.out _ (HOt.out.next hS')), ?_⟩
    try go_simp
    refine hK _ ?_
    clear hK K
    refine wpFk_get rfl (by rfl) (fun K hK => ?_)
    refine ⟨?_, fun w' hS' => ?_, ?_⟩
    rotate_left
    · go_simp
      try (with_reducible rfl)
    try go_simp
    refine hK _ ?_
    clear hK K
    refine wpFk_get rfl (by rfl) (fun K hK => ?_)
    refine ⟨?_, fun w' hS' => ?_, ?_⟩
    rotate_left
    · go_simp
      try (with_reducible rfl)
    try go_simp
    refine hK _ ?_
    clear hK K
    refine wpFk_get rfl (by rfl) (fun K hK => ?_)
    refine ⟨?_, fun w' hS' => ?_, ?_⟩
    rotate_left
    · go_simp
      try (with_reducible rfl)
    try go_simp
    refine hK _ ?_
    clear hK K
    refine wpFk_get rfl (by rfl) (fun K hK => ?_)
    refine ⟨_, fun w' hS' => get_load rfl rfl ((HOt.out.next hS').rt.read zR.out), ?_⟩
    try go_simp
    refine hK _ ?_
    clear hK K
    refine wpFk_call rfl (by rfl) (fun K hK => ?_)
    go_simp
    go_at_call 34
    refine (C4p.out _ (HOt.out.next HS.out)).mono ?_
    rintro e w2x ⟨rfl, hb⟩
    replace HS := Lib.hid (below_new HS.out hb)
    clear hb
    refine hK _ _ HS.out ?_
    clear hK K
    refine wpFk_get rfl (by rfl) (fun K hK => ?_)
    refine ⟨?_, fun w' hS' => ?_, ?_⟩
    rotate_left
    · go_simp
      try (with_reducible rfl)
    try go_simp
    refine hK _ ?_
    clear hK K
    refine wpFk_get rfl (by rfl) (fun K hK => ?_)
    refine ⟨?_, fun w' hS' => ?_, ?_⟩
    rotate_left
    · go_simp
      try (with_reducible rfl)
    try go_simp
    refine hK _ ?_
    clear hK K
    refine wpFk_get rfl (by rfl) (fun K hK => ?_)
    refine ⟨?_, fun w' hS' => ?_, ?_⟩
    rotate_left
    · go_simp
      try (with_reducible rfl)
    try go_simp
    refine hK _ ?_
    clear hK K
    refine wpFk_get rfl (by rfl) (fun K hK => ?_)
    refine ⟨_, fun w' hS' => get_load rfl rfl (RC.out _ (HOt.out.next hS').ck).1, ?_⟩
    try go_simp
    refine hK _ ?_
    clear hK K
    refine wpFk_get rfl (by rfl) (fun K hK => ?_)
    refine ⟨?_, fun w' hS' => ?_, ?_⟩
    rotate_left
    · go_simp
      try (with_reducible rfl)
    try go_simp
    refine hK _ ?_
    clear hK K
    refine wpFk_get rfl (by rfl) (fun K hK => ?_)
    refine ⟨?_, fun w' hS' => ?_, ?_⟩
    rotate_left
    · go_simp
      try (with_reducible rfl)
    try go_simp
    refine hK _ ?_
    clear hK K
    refine wpFk_get rfl (by rfl) (fun K hK => ?_)
    refine ⟨?_, fun w' hS' => ?_, ?_⟩
    rotate_left
    · go_simp
      try (with_reducible rfl)
    try go_simp
    refine hK _ ?_
    clear hK K
    refine wpFk_get rfl (by rfl) (fun K hK => ?_)
    refine ⟨_, fun w' hS' => get_load rfl rfl ((HOt.out.next hS').rt.read zR.out), ?_⟩
    try go_simp
    refine hK _ ?_
    clear hK K
    refine wpFk_get rfl (by rfl) (fun K hK => ?_)
    refine ⟨?_, fun w' hS' => ?_, ?_⟩
    rotate_left
    · go_simp
      try (with_reducible rfl)
    try go_simp
    refine hK _ ?_
    clear hK K
    refine wpFk_get rfl (by rfl) (fun K hK => ?_)
    refine ⟨_, fun w' hS' => get_load rfl rfl (RC.out _ (HOt.out.next hS').ck).1, ?_⟩
    try go_simp
    refine hK _ ?_
    clear hK K
    refine wpFk_get rfl (by rfl) (fun K hK => ?_)
    refine ⟨?_, fun w' hS' => ?_, ?_⟩
    rotate_left
    · go_simp
      try (with_reducible rfl)
    try go_simp
    refine hK _ ?_
    clear hK K
    refine wpFk_get rfl (by rfl) (fun K hK => ?_)
    refine ⟨?_, fun w' hS' => ?_, ?_⟩
    rotate_left
    · go_simp
      try (with_reducible rfl)
    try go_simp
    refine hK _ ?_
    clear hK K
    refine wpFk_get rfl (by rfl) (fun K hK => ?_)
    refine ⟨?_, fun w' hS' => ?_, ?_⟩
    rotate_left
    · go_simp
      try (with_reducible rfl)
    try go_simp
    refine hK _ ?_
    clear hK K
    refine wpFk_get rfl (by rfl) (fun K hK => ?_)
    refine ⟨_, fun w' hS' => get_load rfl rfl ((HOt.out.next hS').rt.read zR.out), ?_⟩
    try go_simp
    refine hK _ ?_
    clear hK K
    refine wpFk_call rfl (by rfl) (fun K hK => ?_)
    go_simp
    go_at_call 34
    refine (C5p.out _ (HOt.out.next HS.out)).mono ?_
    rintro e w2x ⟨rfl, hb⟩
    replace HS := Lib.hid (below_new HS.out hb)
    clear hb
    refine hK _ _ HS.out ?_
    clear hK K
    refine wpFk_call rfl (by rfl) (fun K hK => ?_)
    go_simp
    go_at_call 35
    refine (C5r.out _ (HOt.out.next HS.out)).mono ?_
    rintro e w2x ⟨rfl, hb⟩
    replace HS := Lib.hid (below_new HS.out hb)
    clear hb
    refine hK _ _ HS.out ?_
    clear hK K
    refine wpFk_get rfl (by rfl) (fun K hK => ?_)
    refine ⟨?_, fun w' hS' => ?_, ?_⟩
    rotate_left
    · go_simp
      try (with_reducible rfl)
    try go_simp
    refine hK _ ?_
    clear hK K
    refine wpFk_get rfl (by rfl) (fun K hK => ?_)
    refine ⟨?_, fun w' hS' => ?_, ?_⟩
    rotate_left
    · go_simp
      try (with_reducible rfl)
    try go_simp
    refine hK _ ?_
    clear hK K
    refine wpFk_get rfl (by rfl) (fun K hK => ?_)
    refine ⟨?_, fun w' hS' => ?_, ?_⟩
    rotate_left
    · go_simp
      try (with_reducible rfl)
    try go_simp
    refine hK _ ?_
    clear hK K
    refine wpFk_get rfl (by rfl) (fun K hK => ?_)
    refine ⟨?_, fun w' hS' => ?_, ?_⟩
    rotate_left
    · go_simp
      try (with_reducible rfl)
    try go_simp
    refine hK _ ?_
    clear hK K
    refine wpFk_get rfl (by rfl) (fun K hK => ?_)
    refine ⟨?_, fun w' hS' => ?_, ?_⟩
    rotate_left
    · go_simp
      try (with_reducible rfl)
    try go_simp
    refine hK _ ?_
    clear hK K
    refine wpFk_get rfl (by rfl) (fun K hK => ?_)
    refine ⟨?_, fun w' hS' => ?_, ?_⟩
    rotate_left
    · go_simp
      try (with_reducible rfl)
    try go_simp
    refine hK _ ?_
    clear hK K
    refine wpFk_get rfl (by rfl) (fun K hK => ?_)
    refine ⟨_, fun w' hS' => get_load rfl rfl (RX.out _ (HOt.out.next hS')), ?_⟩
    try go_simp
    refine hK _ ?_
    clear hK K
    refine wpFk_get rfl (by rfl) (fun K hK => ?_)
    refine ⟨?_, fun w' hS' => ?_, ?_⟩
    rotate_left
    · go_simp
      try (with_reducible rfl)
    try go_simp
    refine hK _ ?_
    clear hK K
    refine wpFk_get rfl (by rfl) (fun K hK => ?_)
    refine ⟨?_, fun w' hS' => ?_, ?_⟩
    rotate_left
    · go_simp
      try (with_reducible rfl)
    try go_simp
    refine hK _ ?_
    clear hK K
    refine wpFk_get rfl (by rfl) (fun K hK => ?_)
    refine ⟨?_, fun w' hS' => ?_, ?_⟩
    rotate_left
    · go_simp
      try (with_reducible rfl)
    try go_simp
    refine hK _ ?_
    clear hK K
    refine wpFk_get rfl (by rfl) (fun K hK => ?_)
    refine ⟨_, fun w' hS' => get_load rfl rfl ((HOt.out.next hS').rt.read zR.out), ?_⟩
    try go_simp
    refine hK _ ?_
    clear hK K
    refine wpFk_get rfl (by rfl) (fun K hK => ?_)
    refine ⟨?_, fun w' hS' => ?_, ?_⟩
    rotate_left
    · go_simp
      try (with_reducible rfl)
    try go_simp
    refine hK _ ?_
    clear hK K
    refine wpFk_get rfl (by rfl) (fun K hK => ?_)
    refine ⟨?_, fun w' hS' => ?_, ?_⟩
    rotate_left
    · go_simp
      try (with_reducible rfl)
    try go_simp
    refine hK _ ?_
    clear hK K
    refine wpFk_get rfl (by rfl) (fun K hK => ?_)
    refine ⟨?_, fun w' hS' => ?_, ?_⟩
    rotate_left
    · go_simp
      try (with_reducible rfl)
    try go_simp
    refine hK _ ?_
    clear hK K
    refine wpFk_get rfl (by rfl) (fun K hK => ?_)
    refine ⟨_, fun w' hS' => get_load rfl rfl (RX.out _ (HOt.out.next hS')), ?_⟩
    try go_simp
    refine hK _ ?_
    clear hK K
    refine wpFk_get rfl (by rfl) (fun K hK => ?_)
    refine ⟨?_, fun w' hS' => ?_, ?_⟩
    rotate_left
    · go_simp
      try (with_reducible rfl)
    try go_simp
    refine hK _ ?_
    clear hK K
    refine wpFk_get rfl (by rfl) (fun K hK => ?_)
    refine ⟨?_, fun w' hS' => ?_, ?_⟩
    rotate_left
    · go_simp
      try (with_reducible rfl)
    try go_simp
    refine hK _ ?_
    clear hK K
    refine wpFk_get rfl (by rfl) (fun K hK => ?_)
    refine ⟨?_, fun w' hS' => ?_, ?_⟩
    rotate_left
    · go_simp
      try (with_reducible rfl)
    try go_simp
    refine hK _ ?_
    clear hK K
    refine wpFk_get rfl (by rfl) (fun K hK => ?_)
    refine ⟨_, fun w' hS' => get_load rfl rfl ((HOt.out.next hS').rt.read zR.out), ?_⟩
    try go_simp
    refine hK _ ?_
    clear hK K
    refine wpFk_call rfl (by rfl) (fun K hK => ?_)
    go_simp
    go_at_call 34
    refine (C6p.out _ (HOt.out.next HS.out)).mono ?_
    rintro e w2x ⟨rfl, hb⟩
    replace HS := Lib.hid (below_new HS.out hb)
    clear hb
    refine hK _ _ HS.out ?_
    clear hK K
    refine wpFk_call rfl (by rfl) (fun K hK => ?_)
    go_simp
    go_at_call 35
    refine (C6r.out _ (HOt.out.next HS.out)).mono ?_
    rintro e w2x ⟨rfl, hb⟩
    replace HS := Lib.hid (below_new HS.out hb)
    clear hb
    refine hK _ _ HS.out ?_
    clear hK K
    refine wpFk_get rfl (by rfl) (fun K hK => ?_)
    refine ⟨?_, fun w' hS' => ?_, ?_⟩
    rotate_left
    · go_simp
      try (with_reducible rfl)
    try go_simp
    refine hK _ ?_
    clear hK K
    refine wpFk_get rfl (by rfl) (fun K hK => ?_)
    refine ⟨?_, fun w' hS' => ?_, ?_⟩
    rotate_left
    · go_simp
      try (with_reducible rfl)
    try go_simp
    refine hK _ ?_
    clear hK K
    refine wpFk_done ?_
    refine HQ.out _ _ ?_
    go_wp2
    have H9 := Lib.hid (HOt.out.next HS.out)
    clear HOt HS HQ C4p C5p C5r C6p C6r e55 e66
    go_loopw [13] (fun s13 wr => ∃ k : Nat, s13 = .int .i64 (k : Int) ∧ k ≤ q ∧ Hid (CxH w CL O A ps g12 g R Ap ls P wr)) (fun s13 _ => (q - intOf s13).toNat)
    case atStart => exact ⟨0, rfl, by omega, H9⟩
    case round =>
      clear H9
      obtain ⟨k, rfl, hkq, HO⟩ := hrel
      by_cases hlt : k < q
      · have d7 : (k : Int) < (q : Int) := by omega
        have hkl : k < P.length := by rw [← hq.out]; exact hlt
        have hwk : IntKind.i64.wrap (k : Int) = (k : Int) := by rw [IntKind.wrap_i64]; omega
        obtain ⟨pd, rfl⟩ := HO.out.path.some k hkl
        have hqsm : Hid (q ≤ 8192) := Lib.hid (by omega)
        have HO2 := Lib.hid HO.out.path
        go_upto_region 19 with (at_builtin; refine wpList_appendC rfl (.const (.slice none 0 0)) (.tmp 122) rfl wr.heap.size P rfl (some pd) q cp rfl hq.out hPh.out HO2.out hqsm.out (Nat.le_refl _) ?_; intro v1 w10 ho hg; have HOwn := Lib.hid ho; have HB10 : Hid (Below wr.heap.size wr w10) := Lib.hid ((Below.refl _ _).grown hg (Nat.le_refl _) (by intro k hk; simp at hk)); clear ho hg)
        obtain ⟨g2, c3, rfl, hg2⟩ : ∃ g2 c2, v1 = .slice (some ⟨g2, 0, none⟩) q c2 ∧ Hid ((q ≤ c2 ∧ c2 ≤ maxLen) ∧ wr.heap.size ≤ g2 ∧ w10.there g2 (k * 32) 32 ∧ HW w10 (some ⟨g2, 0, none⟩) P) := by
          obtain ⟨A, c2, e⟩ := own_form HOwn.out
          have hs := own_some (by have := HOwn.out; rw [e] at this; exact this)
          rcases hs.2.2 with ⟨_, h0⟩ | ⟨g2, rfl, h1, h2⟩
          · omega
          · have ho := HOwn.out
            rw [e] at ho
            exact ⟨g2, c2, e, Lib.hid ⟨⟨hs.1, by have := hs.2.1; unfold maxLen; omega⟩, h1, own_room ho k hlt, by rw [hq.out] at ho; exact own_HL ho hPh.out⟩⟩
        have hc3 : q ≤ c3 := hg2.out.1.1
        have HO5 := Lib.hid (HO.out.next HB10.out)
        have s1 : (readAt (.pointer (some ⟨w.heap.size + 1, 0, none⟩))).run Tryd.prog w10 = .ok (.agg O) w10 := HO5.out.ck.ot.read zO.out
        have ht : w10.there g2 (k * 32) O.size := by rw [zO.out]; exact hg2.out.2.2.1
        have h6 := sizeH O.size zO.out
        have HPs : Hid (HL (w10.setCells g2 (k * 32) O.toList) w10.heap.size (some ⟨g2, 0, none⟩) (P.set k ot)) := Lib.hid (by rw [hO.out]; exact HL.set hg2.out.2.2.2 k hkl ot H32.out.2.2.1 hg2.out.2.2.1)
        have HBs : Hid (Below wr.heap.size w10 (w10.setCells g2 (k * 32) O.toList)) := Lib.hid (below_setCells_w hg2.out.2.1 _ _ _)
        have HZs : Hid ((w10.setCells g2 (k * 32) O.toList).heap.size = w10.heap.size) := Lib.hid (size_setCells _ _ _ _)
        go_upto_region 20 with (first
          | (refine wpList_store_mid rfl 31 _ _ rfl g2 (k * 32) O rfl rfl ht h6 oO.out ?_)
          | (refine wpList_store_at rfl 31 _ _ rfl g2 (k * 32) O rfl rfl ht h6 oO.out ?_))
        refine world_gen (fun W => CxH w CL O A ps g12 g R (some pd) ls P W ∧ HW W (some ⟨g2, 0, none⟩) (P.set k ot)) ⟨HO.out.next (HB10.out.trans HBs.out), by unfold HW; rw [HZs.out]; exact HPs.out⟩ (fun w11 H11 => ?_)
        clear s1 ht h6 HPs HBs HZs HO5 HOwn HB10 HO HO2
        have HQs := Lib.hid H11.2
        have HOt := Lib.hid H11.1
        have hG2 := Lib.hid hg2.out.1
        clear hg2 H11
        have hPs : Hid (hashes (P.set k ot) ∧ (P.set k ot).length = q) := Lib.hid ⟨setL_hashes hPh.out k ot H32.out.2.2, by rw [List.length_set, ← hq.out]⟩
        obtain ⟨E7, hE7⟩ : ∃ E, Hid (E = checkF x (i : Int) (n : Int) (P.set k ot) rt) := ⟨_, Lib.hid rfl⟩
        have e77 : ((E7 : Int) != E7) = false := by simp
        have C7p : Hid (∀ W, Below w11.heap.size w11 W → Calls Tryd.prog 34 #[.agg X, .int .i64 (i : Int), .int .i64 (n : Int), .slice (some ⟨g2, 0, none⟩) q c3, .agg R] W fun e w' => e = .returned (.int .i64 E7) ∧ Below W.heap.size W w') := Lib.hid fun W hW => by
          rw [hE7.out]; exact CP.out W _ c3 (i : Int) (n : Int) x rt (P.set k ot) X R q (HQs.out.next hW) (HOt.out.next hW).ck.tab hPs.out.1 hPs.out.2 HIN.out.1 HIN.out.2 hG2.out hX.out hR.out hx32.out hrt32.out
        have C7r : Hid (∀ W, Below w11.heap.size w11 W → Calls Tryd.prog 35 #[.agg X, .int .i64 (i : Int), .int .i64 (n : Int), .slice (some ⟨g2, 0, none⟩) q c3, .agg R] W fun e w' => e = .returned (.int .i64 E7) ∧ Below W.heap.size W w') := Lib.hid fun W hW => by
          rw [hE7.out]; exact CR.out W _ c3 (i : Int) (n : Int) x rt (P.set k ot) X R q (HQs.out.next hW) hPs.out.1 hPs.out.2 HIN.out.1 HIN.out.2 hG2.out hX.out hR.out hx32.out hrt32.out
        clear hkl
        refine wp_region_fk (Below w11.heap.size w11) (.get 0 (.get 1 (.get 2 (.get 3 (.get 4 (.get 5 (.get 6 (.get 7 (.get 9 (.get 10 (.get 11 (.get 12 (.get 13 (.get 14 (.get 15 (.get 16 (.call 8 (.call 17 (.get 18 .done))))))))))))))))))) (by kernel_rfl) rfl (by kernel_rfl) (by kernel_rfl) (by intro c a d v w h; cases d <;> exact h) (Below.refl w11.heap.size w11).drew (fun Q' hQ => ?_)
        have HS := Lib.hid (Below.refl w11.heap.size w11).drew
        have HQ := Lib.hid hQ
        clear hQ
        refine wpFk_get rfl (by rfl) (fun K hK => ?_)
        refine ⟨?_, fun w' hS' => ?_, ?_⟩
        rotate_left
        · go_simp
          try (with_reducible rfl)
        try go_simp
        refine hK _ ?_
        clear hK K
        refine wpFk_get rfl (by rfl) (fun K hK => ?_)
        refine ⟨?_, fun w' hS' => ?_, ?_⟩
        rotate_left
        · go_simp
          try (with_reducible rfl)
        try go_simp
        refine hK _ ?_
        clear hK K
        refine wpFk_get rfl (by rfl) (fun K hK => ?_)
        refine ⟨?_, fun w' hS' => ?_, ?_⟩
        rotate_left
        · go_simp
          try (with_reducible rfl)
        try go_simp
        refine hK _ ?_
        clear hK K
        refine wpFk_get rfl (by rfl) (fun K hK => ?_)
        refine ⟨_, fun w' hS' => get_load rfl rfl (RX.out _ (HOt.out.next hS')), ?_⟩
        try go_simp
        refine hK _ ?_
        clear hK K
        refine wpFk_get rfl (by rfl) (fun K hK => ?_)
        refine ⟨?_, fun w' hS' => ?_, ?_⟩
        rotate_left
        · go_simp
          try (with_reducible rfl)
        try go_simp
        refine hK _ ?_
        clear hK K
        refine wpFk_get rfl (by rfl) (fun K hK => ?_)
        refine ⟨?_, fun w' hS' => ?_, ?_⟩
        rotate_left
        · go_simp
          try (with_reducible rfl)
        try go_simp
        refine hK _ ?_
        clear hK K
        refine wpFk_get rfl (by rfl) (fun K hK => ?_)
        refine ⟨?_, fun w' hS' => ?_, ?_⟩
        rotate_left
        · go_simp
          try (with_reducible rfl)
        try go_simp
        refine hK _ ?_
        clear hK K
        refine wpFk_get rfl (by rfl) (fun K hK => ?_)
        refine ⟨_, fun w' hS' => get_load rfl rfl ((HOt.out.next hS').rt.read zR.out), ?_⟩
        try go_simp
        refine hK _ ?_
        clear hK K
        refine wpFk_get rfl (by rfl) (fun K hK => ?_)
        refine ⟨?_, fun w' hS' => ?_, ?_⟩
        rotate_left
        · go_simp
          try (with_reducible rfl)
        try go_simp
        refine hK _ ?_
        clear hK K
        refine wpFk_get rfl (by rfl) (fun K hK => ?_)
        refine ⟨?_, fun w' hS' => ?_, ?_⟩
        rotate_left
        · go_simp
          try (with_reducible rfl)
        try go_simp
        refine hK _ ?_
        clear hK K
        refine wpFk_get rfl (by rfl) (fun K hK => ?_)
        refine ⟨?_, fun w' hS' => ?_, ?_⟩
        rotate_left
        · go_simp
          try (with_reducible rfl)
        try go_simp
        refine hK _ ?_
        clear hK K
        refine wpFk_get rfl (by rfl) (fun K hK => ?_)
        refine ⟨_, fun w' hS' => get_load rfl rfl (RX.out _ (HOt.out.next hS')), ?_⟩
        try go_simp
        refine hK _ ?_
        clear hK K
        refine wpFk_get rfl (by rfl) (fun K hK => ?_)
        refine ⟨?_, fun w' hS' => ?_, ?_⟩
        rotate_left
        · go_simp
          try (with_reducible rfl)
        try go_simp
        refine hK _ ?_
        clear hK K
        refine wpFk_get rfl (by rfl) (fun K hK => ?_)
        refine ⟨?_, fun w' hS' => ?_, ?_⟩
        rotate_left
        · go_simp
          try (with_reducible rfl)
        try go_simp
        refine hK _ ?_
        clear hK K
        refine wpFk_get rfl (by rfl) (fun K hK => ?_)
        refine ⟨?_, fun w' hS' => ?_, ?_⟩
        rotate_left
        · go_simp
          try (with_reducible rfl)
        try go_simp
        refine hK _ ?_
        clear hK K
        refine wpFk_get rfl (by rfl) (fun K hK => ?_)
        refine ⟨_, fun w' hS' => get_load rfl rfl ((HOt.out.next hS').rt.read zR.out), ?_⟩
        try go_simp
        refine hK _ ?_
        clear hK K
        refine wpFk_call rfl (by rfl) (fun K hK => ?_)
        go_simp
        go_at_call 34
        refine (C7p.out _ HS.out).mono ?_
        rintro e w2x ⟨rfl, hb⟩
        replace HS := Lib.hid (below_new HS.out hb)
        clear hb
        refine hK _ _ HS.out ?_
        clear hK K
        refine wpFk_call rfl (by rfl) (fun K hK => ?_)
        go_simp
        go_at_call 35
        refine (C7r.out _ HS.out).mono ?_
        rintro e w2x ⟨rfl, hb⟩
        replace HS := Lib.hid (below_new HS.out hb)
        clear hb
        refine hK _ _ HS.out ?_
        clear hK K
        refine wpFk_get rfl (by rfl) (fun K hK => ?_)
        refine ⟨?_, fun w' hS' => ?_, ?_⟩
        rotate_left
        · go_simp
          try (with_reducible rfl)
        try go_simp
        refine hK _ ?_
        clear hK K
        refine wpFk_done ?_
        refine HQ.out _ _ ?_
        go_wp2
        go_roundw
        case rel => exact ⟨k + 1, by go_num, by omega, Lib.hid (HOt.out.next HS.out)⟩
        case measure => simp [intOf]; omega
      · have HTB := Lib.hid HO.out.ck.tab
        have HBB := Lib.hid HO.out.ck.below
        go_wp2_with (go_at_call 31; (with_reducible refine (found_any _ HTB.out).mono ?_); rintro e w12 ⟨rfl, hb⟩; have HB12 := Lib.hid (below_new HBB.out hb); clear hb)
        go_ret
        exact ⟨rfl, HB12.out⟩
end Go.Proofs.YtfakimbneenfdaaDoor
