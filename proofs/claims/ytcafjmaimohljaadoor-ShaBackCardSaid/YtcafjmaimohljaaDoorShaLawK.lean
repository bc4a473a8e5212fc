/-
  The walk of the statement ShaBack: it returns true, for every hash, every text and every two bytes; what it makes is new memory, nothing that was there changes. Condition: the two tables as they were laid.
-/
import Derived.Test.YtcafjmaimohljaaDoorShaBackSwap
import Derived.Test.YtcafjmaimohljaaDoorShaAt
import Derived.Test.YtcafjmaimohljaaDoorShaLawA
import Derived.Test.YtcafjmaimohljaaDoorShaCells
import Derived.Deep.RegionWith
import Derived.StillTailTactics
import Derived.BigRegion
import Derived.Deep.DeepCutAuto
namespace Go.Proofs.YtcafjmaimohljaaDoor
open Go.RowKit
set_option linter.unusedVariables false

theorem neq_text (s : ByteArray) (w : World) : (binOp .neq 9 (.string s) (.string s)).run Tryd.prog w = .ok (.bool false) w := by
  simp [go_sem]
theorem eql_text_no (s u : ByteArray) (h : ¬ s = u) (w : World) : (binOp .eql 9 (.string s) (.string u)).run Tryd.prog w = .ok (.bool false) w := by
  simp [go_sem]
  exact fun e => h (Go.WideShapes.bytes_inj (by rw [ByteArray.toList_eq, ByteArray.toList_eq] at e; exact e))
/-- A text of one byte, out of a slice that was just made. -/
theorem one_back (w : World) (x : Int) : (convert 32 9 (.slice (some ⟨w.heap.size, 0, none⟩) 1 1)).run Tryd.prog (w.alloc (.cells #[.int .u8 x] 5)).drew = .ok (.string (strOfNums [x])) (w.alloc (.cells #[.int .u8 x] 5)).drew :=
  run_convert_bytes_arg (w.alloc (.cells #[.int .u8 x] 5)).drew 32 5 Tryd.underlying32 Tryd.underlying5 w.heap.size 0 1 1 [x] rfl (fun i hi => by
    obtain rfl : i = 0 := by omega
    simp [World.cell?_alloc_new]) 9 Tryd.underlying9
/-- The memory behind the statement's first calls: the hash, what was parsed of its text, what was parsed of the text. -/
def Trio (w wr : World) (g8 g10 : Nat) (p c : Int) (A G : Array Value) : Prop :=
  Row wr w.heap.size 24 A ∧ Row wr (w.heap.size + 1) 31 #[.int .u8 p, .int .u8 c] ∧ Row wr g8 24 A ∧ Row wr g10 24 G ∧ Below w.heap.size w wr
theorem Trio.next {w wr w1 : World} {g8 g10 : Nat} {p c : Int} {A G : Array Value} (h : Trio w wr g8 g10 p c A G) (hb : Below wr.heap.size wr w1) : Trio w w1 g8 g10 p c A G :=
  ⟨h.1.next hb, h.2.1.next hb, h.2.2.1.next hb, h.2.2.2.1.next hb, below_new h.2.2.2.2 hb⟩
theorem wpStill_hide {P : Program} {ops : Array Oper} {w : World} {Q : Act → Prop} {a : Act} {l : List Oper} (h : ∀ Q' : Act → Prop, (∀ a', Q a' → Q' a') → wpStill P ops w Q' l a) : wpStill P ops w Q l a := h Q (fun _ h => h)
attribute [local go_sem ↓ high] read_at eq_at neq_at
set_option maxHeartbeats 40000000 in
set_option maxRecDepth 100000 in
theorem backlaw_short (l : List Int) (s : ByteArray) (p c : Int) (w : World) (hT : Tab w) (hl : l.length = 32) (hb : bytes l) (hs : s.size ≤ 100) (hp : 0 ≤ p ∧ p < 256) (hc : 0 ≤ c ∧ c < 256) :
    Calls Tryd.prog 5 #[.agg (nums .u8 l), .string s, .agg #[.int .u8 p, .int .u8 c]] w fun e w' => e = .returned (.bool true) ∧ Below w.heap.size w w' := by
  have hsm : s.size ≤ maxLen := by unfold maxLen; omega
  obtain ⟨A, hC⟩ : ∃ A, Hid (A = nums .u8 l) := ⟨_, Lib.hid rfl⟩
  obtain ⟨G, hD⟩ : ∃ G, Hid (G = nums .u8 (parseL s)) := ⟨_, Lib.hid rfl⟩
  have zA : Hid (A.size = 32) := Lib.hid (by rw [hC.out, nums_size, hl])
  have zG : Hid (G.size = 32) := Lib.hid (by rw [hD.out, nums_size, parseL_length])
  obtain ⟨T, hTT⟩ : ∃ T, Hid (T = hexS l) := ⟨_, Lib.hid rfl⟩
  obtain ⟨S2, hS2⟩ : ∃ S, Hid (S = hexS (parseL s)) := ⟨_, Lib.hid rfl⟩
  obtain ⟨b, hbb⟩ : ∃ b, Hid (b = okS s) := ⟨_, Lib.hid rfl⟩
  have hTs : Hid (T.size = 64) := Lib.hid (by rw [hTT.out]; exact hexS_size l hl)
  have X1 : Hid (∀ W, Calls Tryd.prog 11 #[.agg A] W fun e w' => e = .returned (.string T) ∧ Below W.heap.size W w') := Lib.hid fun W => by rw [hC.out, hTT.out]; exact hex_any l hl hb W
  have X2 : Hid (∀ W, Calls Tryd.prog 11 #[.agg G] W fun e w' => e = .returned (.string S2) ∧ Below W.heap.size W w') := Lib.hid fun W => by rw [hD.out, hS2.out]; exact hex_any _ (parseL_length s) (parseL_bytes s) W
  have P1 : Hid (∀ W, Calls Tryd.prog 9 #[.string T] W fun e w' => e = .returned (.tuple #[.agg A, .bool true]) ∧ Below W.heap.size W w') := Lib.hid fun W => by
    have h := parse_any T (by rw [hTs.out]; decide) W
    rw [hTT.out, parse_hex l hl hb, okS_hex l hl hb, ← hTT.out, ← hC.out] at h
    exact h
  have P2 : Hid (∀ W, Calls Tryd.prog 9 #[.string s] W fun e w' => e = .returned (.tuple #[.agg G, .bool b]) ∧ Below W.heap.size W w') := Lib.hid fun W => by rw [hD.out, hbb.out]; exact parse_any s hsm W
  have N1 : ∀ W, (neqAt (.agg A) (.agg A)).run Tryd.prog W = .ok (.bool false) W := fun W => by
    rw [hC.out, neqAt_hash _ _ hl hl hb hb W, decide_eq_true rfl]; rfl
  have neqT : Hid (b = true → ∀ W, (binOp .neq 9 (.string s) (.string s)).run Tryd.prog W = .ok (.bool false) W) := Lib.hid fun _ W => neq_text s W
  have X2S : Hid (b = true → Hid (∀ W, Calls Tryd.prog 11 #[.agg G] W fun e w' => e = .returned (.string s) ∧ Below W.heap.size W w')) := Lib.hid fun h => Lib.hid fun W => by
    have e : S2 = s := by rw [hS2.out]; exact hex_parse s (by rw [← hbb.out]; exact h)
    rw [← e]; exact X2.out W
  have neqZ : Hid (b = false → ∀ W, (neqAt (.agg G) (.agg #[.int .u8 0, .int .u8 0, .int .u8 0, .int .u8 0, .int .u8 0, .int .u8 0, .int .u8 0, .int .u8 0, .int .u8 0, .int .u8 0, .int .u8 0, .int .u8 0, .int .u8 0, .int .u8 0, .int .u8 0, .int .u8 0, .int .u8 0, .int .u8 0, .int .u8 0, .int .u8 0, .int .u8 0, .int .u8 0, .int .u8 0, .int .u8 0, .int .u8 0, .int .u8 0, .int .u8 0, .int .u8 0, .int .u8 0, .int .u8 0, .int .u8 0, .int .u8 0])).run Tryd.prog W = .ok (.bool false) W) := Lib.hid fun h W => by
    have e : parseL s = zero32 := parse_none s (by rw [← hbb.out]; exact h)
    rw [hD.out, e]
    exact (neqAt_hash zero32 zero32 rfl rfl zero32_bytes zero32_bytes W).trans (by rw [decide_eq_true rfl]; rfl)
  obtain ⟨k, hkp, hk⟩ : ∃ k : Nat, p % 64 = (k : Int) ∧ k < 64 := ⟨(p % 64).toNat, by omega, by omega⟩
  obtain ⟨U, hU⟩ : ∃ U, Hid (U = swapS T k c) := ⟨_, Lib.hid rfl⟩
  obtain ⟨M, hM⟩ : ∃ M, Hid (M = nums .u8 (parseL U)) := ⟨_, Lib.hid rfl⟩
  obtain ⟨o, ho⟩ : ∃ o, Hid (o = decide (0 ≤ dig c)) := ⟨_, Lib.hid rfl⟩
  have zM : Hid (M.size = 32) := Lib.hid (by rw [hM.out, nums_size, parseL_length])
  have iM : Hid ((Tryd.prog.info? 24).map (·.size) = some M.size) := Lib.hid (by rw [zM.out]; kernel_rfl)
  have oM : Hid (Array.all M (·.oneCell') = true) := Lib.hid (by rw [hM.out]; exact nums_one _ _)
  have P3 : Hid (∀ W, Calls Tryd.prog 9 #[.string U] W fun e w' => e = .returned (.tuple #[.agg M, .bool o]) ∧ Below W.heap.size W w') := Lib.hid fun W => by
    have h := parse_any U (by rw [hU.out, swapS_size _ _ _ (by rw [hTs.out]; exact hk), hTs.out]; decide) W
    rw [hM.out, ho.out, ← swap_ok l hl hb k hk c hc, ← hTT.out, ← hU.out]
    exact h
  have key : Hid ((o = true → (parseL U = l ↔ U = T)) ∧ (o = false → parseL U = zero32)) := Lib.hid ⟨fun h => by
      rw [hU.out, hTT.out]
      exact swap_same l hl hb k hk c hc (of_decide_eq_true (by rw [← ho.out]; exact h)), fun h => by
      rw [hU.out, hTT.out]
      exact swap_none l hl hb k hk c hc (of_decide_eq_false (by rw [← ho.out]; exact h))⟩
  have QEt : Hid ((if o = true then decide (U = T) else decide (l = zero32)) = true → ∀ W, (eqAt (.agg M) (.agg A)).run Tryd.prog W = .ok (.bool true) W) := Lib.hid fun h W => by
    rw [hM.out, hC.out, eqAt_hash _ _ (parseL_length U) hl (parseL_bytes U) hb W]
    rw [show decide (parseL U = l) = true from decide_eq_true (by
      rcases Bool.eq_false_or_eq_true o with hov | hov
      · rw [hov] at h; exact (key.out.1 hov).2 (of_decide_eq_true h)
      · rw [hov] at h; exact (key.out.2 hov).trans (of_decide_eq_true h).symm)]
  have QEf : Hid ((if o = true then decide (U = T) else decide (l = zero32)) = false → ∀ W, (eqAt (.agg M) (.agg A)).run Tryd.prog W = .ok (.bool false) W) := Lib.hid fun h W => by
    rw [hM.out, hC.out, eqAt_hash _ _ (parseL_length U) hl (parseL_bytes U) hb W]
    rw [show decide (parseL U = l) = false from decide_eq_false (fun e => by
      rcases Bool.eq_false_or_eq_true o with hov | hov
      · rw [hov] at h; exact absurd ((key.out.1 hov).1 e) (of_decide_eq_false h)
      · rw [hov] at h; exact absurd ((e.symm.trans (key.out.2 hov))) (of_decide_eq_false h))]
  have QUt : Hid (U = T → (U.toList == T.toList) = true) := Lib.hid fun h => by rw [h]; exact beq_self_eq_true _
  have QUf : Hid (¬ U = T → (U.toList == T.toList) = false) := Lib.hid fun h => by
    have : ¬ U.toList = T.toList := fun e => h (Go.WideShapes.bytes_inj (by rw [ByteArray.toList_eq, ByteArray.toList_eq] at e; exact e))
    simpa using this
  have QZt : Hid (l = zero32 → ∀ W, (eqAt (.agg A) (.agg #[.int .u8 0, .int .u8 0, .int .u8 0, .int .u8 0, .int .u8 0, .int .u8 0, .int .u8 0, .int .u8 0, .int .u8 0, .int .u8 0, .int .u8 0, .int .u8 0, .int .u8 0, .int .u8 0, .int .u8 0, .int .u8 0, .int .u8 0, .int .u8 0, .int .u8 0, .int .u8 0, .int .u8 0, .int .u8 0, .int .u8 0, .int .u8 0, .int .u8 0, .int .u8 0, .int .u8 0, .int .u8 0, .int .u8 0, .int .u8 0, .int .u8 0, .int .u8 0])).run Tryd.prog W = .ok (.bool true) W) := Lib.hid fun h W => by
    rw [hC.out]
    exact (eqAt_hash l zero32 hl rfl hb zero32_bytes W).trans (by rw [decide_eq_true h])
  have QZf : Hid (¬ l = zero32 → ∀ W, (eqAt (.agg A) (.agg #[.int .u8 0, .int .u8 0, .int .u8 0, .int .u8 0, .int .u8 0, .int .u8 0, .int .u8 0, .int .u8 0, .int .u8 0, .int .u8 0, .int .u8 0, .int .u8 0, .int .u8 0, .int .u8 0, .int .u8 0, .int .u8 0, .int .u8 0, .int .u8 0, .int .u8 0, .int .u8 0, .int .u8 0, .int .u8 0, .int .u8 0, .int .u8 0, .int .u8 0, .int .u8 0, .int .u8 0, .int .u8 0, .int .u8 0, .int .u8 0, .int .u8 0, .int .u8 0])).run Tryd.prog W = .ok (.bool false) W) := Lib.hid fun h W => by
    rw [hC.out]
    exact (eqAt_hash l zero32 hl rfl hb zero32_bytes W).trans (by rw [decide_eq_false h])
  have iD : Hid ((Tryd.prog.info? 24).map (·.size) = some A.size) := Lib.hid (by rw [zA.out]; kernel_rfl)
  have iG : Hid ((Tryd.prog.info? 24).map (·.size) = some G.size) := Lib.hid (by rw [zG.out]; kernel_rfl)
  have oA : Hid (Array.all A (·.oneCell') = true) := Lib.hid (by rw [hC.out]; exact nums_one _ _)
  have oG : Hid (Array.all G (·.oneCell') = true) := Lib.hid (by rw [hD.out]; exact nums_one _ _)
  have HT := Lib.hid hT
  rw [← hC.out]
  have hne64 : ((T.size : Int) != 64) = false := by rw [hTs.out]; rfl
  have H0 : Hid (Row ((w.alloc (.cells A 24)).alloc (.cells #[.int .u8 p, .int .u8 c] 31)) w.heap.size 24 A ∧ Row ((w.alloc (.cells A 24)).alloc (.cells #[.int .u8 p, .int .u8 c] 31)) (w.heap.size + 1) 31 #[.int .u8 p, .int .u8 c] ∧ Below w.heap.size w ((w.alloc (.cells A 24)).alloc (.cells #[.int .u8 p, .int .u8 c] 31))) :=
    Lib.hid ⟨(Row.made _ _ _).alloc _, Row.made2 _ _ _ _, ((Below.refl _ _).alloc (Nat.le_refl _) _).alloc (by simp) _⟩
  clear hT hsm hl hb
  go_enter Tryd.func5, Tryd.ntmps5
  go_upto_region 3 with fail
  go_cut [7] (fun s7 wx => s7 = .string T ∧ Hid (Row wx w.heap.size 24 A ∧ Row wx (w.heap.size + 1) 31 #[.int .u8 p, .int .u8 c] ∧ Below w.heap.size w wx))
  case first =>
    have hld := H0.out.1
    go_wp2_with (first
      | (refine wpList_load_row rfl 24 _ rfl w.heap.size rfl 24 _ (0, 0) _ hld Tryd.underlying24 rfl iD.out ?_)
      | (go_at_call 11; (with_reducible refine (X1.out _).mono ?_); rintro e w1 ⟨rfl, hb1⟩))
    go_meet
    exact ⟨rfl, Lib.hid ⟨H0.out.1.next hb1, H0.out.2.1.next hb1, below_new H0.out.2.2 hb1⟩⟩
  case rest =>
  obtain ⟨rfl, H1⟩ := hcut
  clear H0
  go_upto_region 4 with fail
  go_cut [8, 9] (fun s8 s9 wx => ∃ g8, s8 = .pointer (some ⟨g8, 0, none⟩) ∧ s9 = .bool true ∧ Hid (Row wx w.heap.size 24 A ∧ Row wx (w.heap.size + 1) 31 #[.int .u8 p, .int .u8 c] ∧ Row wx g8 24 A ∧ Below w.heap.size w wx))
  case first =>
    go_wp2_with (first
      | (go_at_call 9; (with_reducible refine (P1.out _).mono ?_); rintro e w1 ⟨rfl, hb1⟩)
      | (refine wpList_store_fresh rfl 24 _ _ rfl A rfl rfl 24 _ iD.out (by rw [zA.out]; rfl) oA.out ?_; intro w2 hS hb2))
    go_meet
    exact ⟨_, rfl, rfl, Lib.hid ⟨(H1.out.1.next hb1).next hb2, (H1.out.2.1.next hb1).next hb2, hS, below_new (below_new H1.out.2.2 hb1) hb2⟩⟩
  case rest =>
  obtain ⟨g8, rfl, rfl, H2⟩ := hcut
  clear H1
  go_upto_region 5 with fail
  go_cut [10, 11] (fun s10 s11 wx => ∃ g10, s10 = .pointer (some ⟨g10, 0, none⟩) ∧ s11 = .bool b ∧ Hid (Trio w wx g8 g10 p c A G))
  case first =>
    go_wp2_with (first
      | (go_at_call 9; (with_reducible refine (P2.out _).mono ?_); rintro e w1 ⟨rfl, hb1⟩)
      | (refine wpList_store_fresh rfl 24 _ _ rfl G rfl rfl 24 _ iG.out (by rw [zG.out]; rfl) oG.out ?_; intro w2 hS hb2))
    go_meet
    exact ⟨_, rfl, rfl, Lib.hid ⟨(H2.out.1.next hb1).next hb2, (H2.out.2.1.next hb1).next hb2, (H2.out.2.2.1.next hb1).next hb2, hS, below_new (below_new H2.out.2.2.2 hb1) hb2⟩⟩
  case rest =>
  obtain ⟨g10, rfl, rfl, H3⟩ := hcut
  clear H2
  go_upto_region 6 with fail
  go_cut [11, 62] (fun s11 s62 wx => s11 = .bool b ∧ s62 = .bool false ∧ Hid (Trio w wx g8 g10 p c A G))
  case first =>
    have s1 := H3.out.1.read zA.out
    have s2 := H3.out.2.2.1.read zA.out
    have s3 := H3.out.2.2.2.1.read zG.out
    rcases Bool.eq_false_or_eq_true b with hbv | hbv
    · have N2 := neqT.out hbv
      have X3 := X2S.out hbv
      go_wp2_with (go_at_call 11; (with_reducible refine (X3.out _).mono ?_); rintro e w1 ⟨rfl, hb1⟩)
      go_meet
      exact ⟨by rw [hbv], rfl, Lib.hid (H3.out.next hb1)⟩
    · have N3 := neqZ.out hbv
      go_wp2
      go_meet
      exact ⟨by rw [hbv], rfl, H3⟩
  case rest =>
  obtain ⟨rfl, rfl, H4⟩ := hcut
  clear H3
  have hc0 : wc.cell? ⟨w.heap.size + 1, 0, none⟩ = some (.int .u8 p) := H4.out.2.1.cell 0
  have hc1 : wc.cell? ⟨w.heap.size + 1, 1, none⟩ = some (.int .u8 c) := H4.out.2.1.cell 1
  have hT1 : 64 ≤ T.size := by rw [hTs.out]; omega
  have hT2 : (k : Int) ≤ (T.size : Int) := by omega
  have hT3 : (k : Int) + 1 ≤ (T.size : Int) := by omega
  have wk : IntKind.i64.wrap ((k : Int) + 1) = (k : Int) + 1 := by rw [IntKind.wrap_i64]; omega
  have k0 : (0 : Int) ≤ (k : Int) + 1 := by omega
  have k1 : ((k : Int) + 1).toNat = k + 1 := by omega
  have cv := one_back wc c
  have a1 := add_text (T.extract 0 k) (strOfNums [c]) (by rw [one_size, ByteArray.size_extract, hTs.out]; omega)
  have a2 := add_text (T.extract 0 k ++ strOfNums [c]) (T.extract (k + 1) T.size) (by rw [ByteArray.size_append, one_size, ByteArray.size_extract, ByteArray.size_extract, hTs.out]; omega)
  go_upto_region 9 with fail
  go_cut [12, 13] (fun s12 s13 wx => s12 = .int .i64 k ∧ s13 = .string U ∧ Hid (Trio w wx g8 g10 p c A G))
  case first =>
    go_region
    all_goals (go_wp2_with fail; go_meet)
    all_goals exact ⟨by rw [hkp], by rw [hU.out]; rfl, Lib.hid ⟨H4.out.1.alloc _, H4.out.2.1.alloc _, H4.out.2.2.1.alloc _, H4.out.2.2.2.1.alloc _, Below.drew (H4.out.2.2.2.2.alloc H4.out.2.2.2.2.size _)⟩⟩
  case rest =>
  obtain ⟨rfl, rfl, H5⟩ := hcut
  clear H4 cv a1 a2 wk k0 k1 hc0 hc1 hT2 hT3
  go_upto_region 10 with fail
  go_cut [14, 15] (fun s14 s15 wx => ∃ g14, s14 = .pointer (some ⟨g14, 0, none⟩) ∧ s15 = .bool o ∧ Hid (Trio w wx g8 g10 p c A G ∧ Row wx g14 24 M))
  case first =>
    go_wp2_with (first
      | (go_at_call 9; (with_reducible refine (P3.out _).mono ?_); rintro e w1 ⟨rfl, hb1⟩)
      | (refine wpList_store_fresh rfl 24 _ _ rfl M rfl rfl 24 _ iM.out (by rw [zM.out]; rfl) oM.out ?_; intro w2 hS hb2))
    go_meet
    exact ⟨_, rfl, rfl, Lib.hid ⟨(H5.out.next hb1).next hb2, hS⟩⟩
  case rest =>
  obtain ⟨g14, rfl, rfl, H6⟩ := hcut
  clear H5
  go_upto_region 11 with fail
  have hc1 : wc.cell? ⟨w.heap.size + 1, 1, none⟩ = some (.int .u8 c) := H6.out.1.2.1.cell 1
  go_cut [16] (fun s16 wx => s16 = .bool o ∧ Hid (Trio w wx g8 g10 p c A G ∧ Row wx g14 24 M))
  case first =>
    by_cases h1 : 48 ≤ c
    · by_cases h2 : c ≤ 57
      · have hd : Hid (o = true) := Lib.hid (by rw [ho.out]; exact decide_eq_true (by unfold dig; rw [if_pos ⟨h1, h2⟩]; omega))
        go_wp2
        go_meet
        exact ⟨by rw [hd.out], H6⟩
      · have n2 : ¬ c ≤ 57 := h2
        by_cases h3 : 97 ≤ c
        · by_cases h4 : c ≤ 102
          · have hd : Hid (o = true) := Lib.hid (by rw [ho.out]; exact decide_eq_true (by unfold dig; rw [if_neg (by omega), if_pos ⟨h3, h4⟩]; omega))
            go_wp2
            go_meet
            exact ⟨by rw [hd.out], H6⟩
          · have hd : Hid (o = false) := Lib.hid (by rw [ho.out]; exact decide_eq_false (by unfold dig; rw [if_neg (by omega), if_neg (by omega)]; omega))
            go_wp2
            go_meet
            exact ⟨by rw [hd.out], H6⟩
        · have hd : Hid (o = false) := Lib.hid (by rw [ho.out]; exact decide_eq_false (by unfold dig; rw [if_neg (by omega), if_neg (by omega)]; omega))
          go_wp2
          go_meet
          exact ⟨by rw [hd.out], H6⟩
    · have hd : Hid (o = false) := Lib.hid (by rw [ho.out]; exact decide_eq_false (by unfold dig; rw [if_neg (by omega), if_neg (by omega)]; omega))
      have n3 : ¬ 97 ≤ c := by omega
      go_wp2
      go_meet
      exact ⟨by rw [hd.out], H6⟩
  case rest =>
  obtain ⟨rfl, H7⟩ := hcut
  clear H6
  go_upto_region 12 with fail
  have HBW : Hid (Below w.heap.size w wc.drew) := Lib.hid H7.out.1.2.2.2.2.drew
  have s1 := H7.out.1.1.drew.read zA.out
  have s2 := H7.out.2.drew.read zM.out
  clear H7
  rcases Bool.eq_false_or_eq_true o with hov | hov
  · by_cases hUT : U = T
    · have QE := QEt.out (by rw [hov]; exact decide_eq_true hUT)
      have QU := QUt.out hUT
      clear hUT
      refine wp_region_still_tail 25 (by kernel_rfl) (by kernel_rfl) ?_
      simp only [List.take_succ_cons, List.take_zero, List.drop_succ_cons, List.drop_zero]
      refine wpStill_hide (fun Q' hQ => ?_)
      have HQ := Lib.hid hQ
      clear hQ
      iterate 25 ((refine (wpStill_step (fun K hK => ?_) : wpStill _ _ _ _ (_ :: _) _)); go_simp; refine hK _ ?_; clear hK K)
      refine wpStill_nil ?_
      refine HQ.out _ ?_
      change wpList _ _ _ _ _ wc.drew
      go_wp2_with (go_at_call 6; (with_reducible refine (hashed_any _ (HT.out.next HBW.out)).mono ?_); rintro e w7 ⟨rfl, hb⟩; have HZ := Lib.hid (below_new HBW.out hb); clear hb)
      go_ret
      exact ⟨rfl, HZ.out⟩
    · have QE := QEf.out (by rw [hov]; exact decide_eq_false hUT)
      have QU := QUf.out hUT
      clear hUT
      refine wp_region_still_tail 25 (by kernel_rfl) (by kernel_rfl) ?_
      simp only [List.take_succ_cons, List.take_zero, List.drop_succ_cons, List.drop_zero]
      refine wpStill_hide (fun Q' hQ => ?_)
      have HQ := Lib.hid hQ
      clear hQ
      iterate 25 ((refine (wpStill_step (fun K hK => ?_) : wpStill _ _ _ _ (_ :: _) _)); go_simp; refine hK _ ?_; clear hK K)
      refine wpStill_nil ?_
      refine HQ.out _ ?_
      change wpList _ _ _ _ _ wc.drew
      go_wp2_with (go_at_call 6; (with_reducible refine (hashed_any _ (HT.out.next HBW.out)).mono ?_); rintro e w7 ⟨rfl, hb⟩; have HZ := Lib.hid (below_new HBW.out hb); clear hb)
      go_ret
      exact ⟨rfl, HZ.out⟩
  · by_cases hz : l = zero32
    · have QE := QEt.out (by rw [hov]; exact decide_eq_true hz)
      have QZ := QZt.out hz
      clear hz
      refine wp_region_still_tail 25 (by kernel_rfl) (by kernel_rfl) ?_
      simp only [List.take_succ_cons, List.take_zero, List.drop_succ_cons, List.drop_zero]
      refine wpStill_hide (fun Q' hQ => ?_)
      have HQ := Lib.hid hQ
      clear hQ
      iterate 25 ((refine (wpStill_step (fun K hK => ?_) : wpStill _ _ _ _ (_ :: _) _)); go_simp; refine hK _ ?_; clear hK K)
      refine wpStill_nil ?_
      refine HQ.out _ ?_
      change wpList _ _ _ _ _ wc.drew
      go_wp2_with (go_at_call 6; (with_reducible refine (hashed_any _ (HT.out.next HBW.out)).mono ?_); rintro e w7 ⟨rfl, hb⟩; have HZ := Lib.hid (below_new HBW.out hb); clear hb)
      go_ret
      exact ⟨rfl, HZ.out⟩
    · have QE := QEf.out (by rw [hov]; exact decide_eq_false hz)
      have QZ := QZf.out hz
      clear hz
      refine wp_region_still_tail 25 (by kernel_rfl) (by kernel_rfl) ?_
      simp only [List.take_succ_cons, List.take_zero, List.drop_succ_cons, List.drop_zero]
      refine wpStill_hide (fun Q' hQ => ?_)
      have HQ := Lib.hid hQ
      clear hQ
      iterate 25 ((refine (wpStill_step (fun K hK => ?_) : wpStill _ _ _ _ (_ :: _) _)); go_simp; refine hK _ ?_; clear hK K)
      refine wpStill_nil ?_
      refine HQ.out _ ?_
      change wpList _ _ _ _ _ wc.drew
      go_wp2_with (go_at_call 6; (with_reducible refine (hashed_any _ (HT.out.next HBW.out)).mono ?_); rintro e w7 ⟨rfl, hb⟩; have HZ := Lib.hid (below_new HBW.out hb); clear hb)
      go_ret
      exact ⟨rfl, HZ.out⟩
end Go.Proofs.YtcafjmaimohljaaDoor
