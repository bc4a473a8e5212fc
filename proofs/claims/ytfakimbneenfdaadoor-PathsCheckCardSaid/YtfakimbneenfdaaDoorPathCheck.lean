/-
  The walk of Check (layer 6): whether a leaf, its number, a path and a root check. Conditions: the two tables as they were laid, a list of hashes in memory. What it makes is new memory; nothing that was there changes.
-/
import Derived.Test.YtfakimbneenfdaaDoorPathClimb
import Derived.Test.YtfakimbneenfdaaDoorShaAt
namespace Go.Proofs.YtfakimbneenfdaaDoor
open Go.RowKit Go.Great
set_option linter.unusedVariables false
set_option maxRecDepth 100000

/-- What Check holds: the leaf, the root. -/
structure CheckH (w wr : World) (C D : Array Value) : Prop where
  h : Row wr w.heap.size 31 C
  rt : Row wr (w.heap.size + 1) 31 D
  below : Below w.heap.size w wr
theorem CheckH.next {w wr w1 : World} {C D : Array Value} (h : CheckH w wr C D) (hb : Below wr.heap.size wr w1) : CheckH w w1 C D := ⟨h.h.next hb, h.rt.next hb, below_new h.below hb⟩
theorem CheckH.start (w : World) (C D : Array Value) : CheckH w ((w.alloc (.cells C 31)).alloc (.cells D 31)) C D :=
  ⟨(Row.made _ _ _).alloc _, Row.made2 _ _ _ _, ((Below.refl _ _).alloc (Nat.le_refl _) _).alloc (by simp) _⟩
attribute [local go_sem ↓ high] read_at write_at neq_at
set_option maxHeartbeats 8000000 in
theorem check_any (leaf root : List Int) (hl32 : leaf.length = 32 ∧ bytes leaf) (hr32 : root.length = 32 ∧ bytes root) (i n : Int) (hi64 : -9223372036854775808 ≤ i ∧ i ≤ 9223372036854775807) (hn64 : -9223372036854775808 ≤ n ∧ n ≤ 9223372036854775807)
    (p : List (List Int)) (hp : hashes p) (A : Option Addr) (c : Nat) (w : World) (hA : HL w w.heap.size A p) (hT : Tab w) (hc : p.length ≤ c) (hcm : c ≤ 9223372036854775807) :
    Calls Tryd.prog 34 #[.agg (nums .u8 leaf), .int .i64 i, .int .i64 n, .slice A p.length c, .agg (nums .u8 root)] w fun e w' => e = .returned (.int .i64 (checkF leaf i n p root)) ∧ Below w.heap.size w w' := by
  obtain ⟨q, hq⟩ : ∃ q, Hid (q = p.length) := ⟨_, Lib.hid rfl⟩
  obtain ⟨C, hC⟩ : ∃ C, Hid (C = nums .u8 leaf) := ⟨_, Lib.hid rfl⟩
  obtain ⟨D, hD⟩ : ∃ D, Hid (D = nums .u8 root) := ⟨_, Lib.hid rfl⟩
  have zC : Hid (C.size = 32) := Lib.hid (by rw [hC.out, nums_size]; exact hl32.1)
  have zD : Hid (D.size = 32) := Lib.hid (by rw [hD.out, nums_size]; exact hr32.1)
  have H0 := Lib.hid (CheckH.start w C D)
  have HA := Lib.hid hA
  have HT := Lib.hid hT
  rw [← hq.out, ← hC.out, ← hD.out]
  clear hA hT
  by_cases h1 : n < 1
  · have d1 : decide (n < 1) = true := decide_eq_true h1
    have HF : Hid (checkF leaf i n p root = 2) := Lib.hid (checkF_arg (.inl h1))
    rw [HF.out]
    go_enter Tryd.func34, Tryd.ntmps34
    go_upto_region 1 with fail
    refine world_gen (fun wx => CheckH w wx C D) H0.out (fun wx HX => ?_)
    have HX := Lib.hid HX
    go_wp2
    go_ret
    exact ⟨rfl, HX.out.below⟩
  have d1 : decide (n < 1) = false := decide_eq_false h1
  by_cases h2 : 4096 < n
  · have d2 : decide (4096 < n) = true := decide_eq_true h2
    have HF : Hid (checkF leaf i n p root = 2) := Lib.hid (checkF_arg (.inr (.inl h2)))
    rw [HF.out]
    go_enter Tryd.func34, Tryd.ntmps34
    go_upto_region 1 with fail
    refine world_gen (fun wx => CheckH w wx C D) H0.out (fun wx HX => ?_)
    have HX := Lib.hid HX
    go_wp2
    go_ret
    exact ⟨rfl, HX.out.below⟩
  have d2 : decide (4096 < n) = false := decide_eq_false h2
  by_cases h3 : i < 0
  · have d3 : decide (i < 0) = true := decide_eq_true h3
    have HF : Hid (checkF leaf i n p root = 2) := Lib.hid (checkF_arg (.inr (.inr (.inl h3))))
    rw [HF.out]
    go_enter Tryd.func34, Tryd.ntmps34
    go_upto_region 1 with fail
    refine world_gen (fun wx => CheckH w wx C D) H0.out (fun wx HX => ?_)
    have HX := Lib.hid HX
    go_wp2
    go_ret
    exact ⟨rfl, HX.out.below⟩
  have d3 : decide (i < 0) = false := decide_eq_false h3
  by_cases h4 : n ≤ i
  · have d4 : decide (n ≤ i) = true := decide_eq_true h4
    have HF : Hid (checkF leaf i n p root = 2) := Lib.hid (checkF_arg (.inr (.inr (.inr h4))))
    rw [HF.out]
    go_enter Tryd.func34, Tryd.ntmps34
    go_upto_region 1 with fail
    refine world_gen (fun wx => CheckH w wx C D) H0.out (fun wx HX => ?_)
    have HX := Lib.hid HX
    go_wp2
    go_ret
    exact ⟨rfl, HX.out.below⟩
  obtain ⟨I, rfl⟩ : ∃ I : Nat, i = I := ⟨i.toNat, by omega⟩
  obtain ⟨N, rfl⟩ : ∃ N : Nat, n = N := ⟨n.toNat, by omega⟩
  have d4 : decide ((N : Int) ≤ (I : Int)) = false := decide_eq_false h4
  have hIN : I < N := by omega
  have d5 : decide (N ≤ I) = false := decide_eq_false (by omega)
  have d6 : (I : Int) < (N : Int) := by omega
  have d7 : ¬ ((N : Int) ≤ (I : Int)) := h4
  have HIN := Lib.hid hIN
  obtain ⟨R, hR⟩ : ∃ R, Hid (R = comeL leaf I (N - 1) p) := ⟨_, Lib.hid rfl⟩
  have X1 : Hid (∀ W, Below w.heap.size w W → Calls Tryd.prog 56 #[.agg C, .int .i64 (I : Int), .int .i64 (N : Int), .slice A q c] W (GivesC W R)) := Lib.hid fun W hW => by
    have := (climb_any leaf hl32 I N hIN (by omega) p hp A c W (HA.out.from hW) (HT.out.next hW) (by omega))
    rw [← hC.out, ← hq.out, ← hR.out] at this
    exact this
  have HF : Hid (checkF leaf (I : Int) (N : Int) p root = if R = some root then 0 else 80) := Lib.hid (by rw [hR.out]; exact checkF_in hIN (by omega))
  obtain ⟨E, hE⟩ : ∃ E, Hid (E = checkF leaf (I : Int) (N : Int) p root) := ⟨_, Lib.hid rfl⟩
  rw [← hE.out]
  have HR32 := Lib.hid hr32
  clear hp hl32 hr32 h1 h2 h3 h4 hIN
  go_enter Tryd.func34, Tryd.ntmps34
  go_upto_region 1 with fail
  refine world_gen (fun wx => CheckH w wx C D) H0.out (fun wx HX => ?_)
  have HX := Lib.hid HX
  have s5 := HX.out.h.read zC.out
  have HBX := Lib.hid HX.out.below
  cases hRR : R with
  | none =>
    rw [hRR] at X1 HF
    have HE : Hid (E = 80) := Lib.hid (by rw [hE.out, HF.out, if_neg (by intro h; cases h)])
    clear hR
    go_wp2_with (go_at_call 56; (with_reducible refine (X1.out _ HBX.out).mono ?_); rintro e w6 ⟨⟨Z, rfl, hz, hy⟩, hb⟩; obtain ⟨Y, hY⟩ : ∃ Y, Hid (Y = nums .u8 Z) := ⟨_, Lib.hid rfl⟩; rw [← hY.out]; have zY : Hid (Y.size = 32) := Lib.hid (by rw [hY.out, nums_size]; exact hz.1); have oY : Hid (Y.all (·.oneCell') = true) := Lib.hid (by rw [hY.out]; exact nums_one _ _); obtain ⟨w7, s7, hr7, hb7, hz7⟩ := made_write w6 Y zY.out oY.out; have HC7 := Lib.hid ((HX.out.next hb).next hb7); clear hr7 hb7 hz7 hb s5 hz hy)
    go_ret
    exact ⟨by rw [HE.out]; rfl, HC7.out.below⟩
  | some y =>
    rw [hRR] at X1 HF
    clear hR
    by_cases he : y = root
    · subst he
      have HE : Hid (E = 0) := Lib.hid (by rw [hE.out, HF.out, if_pos rfl])
      have q1 : Hid (∀ (Z : List Int), (Z.length = 32 ∧ bytes Z) → Z = y → ∀ W, (neqAt (.agg (nums .u8 Z)) (.agg D)).run Tryd.prog W = .ok (.bool false) W) := Lib.hid fun Z hz hzy W => by
        rw [hD.out, neqAt_hash Z y hz.1 HR32.out.1 hz.2 HR32.out.2 W, decide_eq_true hzy]; rfl
      go_wp2_with (go_at_call 56; (with_reducible refine (X1.out _ HBX.out).mono ?_); rintro e w6 ⟨⟨Z, rfl, hz, hy⟩, hb⟩; have q2 := q1.out Z hz (hy y rfl); obtain ⟨Y, hY⟩ : ∃ Y, Hid (Y = nums .u8 Z) := ⟨_, Lib.hid rfl⟩; rw [← hY.out] at q2 ⊢; have zY : Hid (Y.size = 32) := Lib.hid (by rw [hY.out, nums_size]; exact hz.1); have oY : Hid (Y.all (·.oneCell') = true) := Lib.hid (by rw [hY.out]; exact nums_one _ _); obtain ⟨w7, s7, hr7, hb7, hz7⟩ := made_write w6 Y zY.out oY.out; have HC7 := Lib.hid ((HX.out.next hb).next hb7); have s8 := hr7.read zY.out; have s9 := HC7.out.rt.read zD.out; clear hr7 hb7 hz7 hb s5 hz hy)
      go_ret
      exact ⟨by rw [HE.out]; rfl, HC7.out.below⟩
    · have q1 : Hid (∀ (Z : List Int), (Z.length = 32 ∧ bytes Z) → Z = y → ∀ W, (neqAt (.agg (nums .u8 Z)) (.agg D)).run Tryd.prog W = .ok (.bool true) W) := Lib.hid fun Z hz hzy W => by
        rw [hD.out, neqAt_hash Z root hz.1 HR32.out.1 hz.2 HR32.out.2 W, decide_eq_false (by rw [hzy]; exact he)]; rfl
      have HE : Hid (E = 80) := Lib.hid (by rw [hE.out, HF.out, if_neg (fun h => he (Option.some.inj h))])
      clear he
      go_wp2_with (go_at_call 56; (with_reducible refine (X1.out _ HBX.out).mono ?_); rintro e w6 ⟨⟨Z, rfl, hz, hy⟩, hb⟩; have q2 := q1.out Z hz (hy y rfl); obtain ⟨Y, hY⟩ : ∃ Y, Hid (Y = nums .u8 Z) := ⟨_, Lib.hid rfl⟩; rw [← hY.out] at q2 ⊢; have zY : Hid (Y.size = 32) := Lib.hid (by rw [hY.out, nums_size]; exact hz.1); have oY : Hid (Y.all (·.oneCell') = true) := Lib.hid (by rw [hY.out]; exact nums_one _ _); obtain ⟨w7, s7, hr7, hb7, hz7⟩ := made_write w6 Y zY.out oY.out; have HC7 := Lib.hid ((HX.out.next hb).next hb7); have s8 := hr7.read zY.out; have s9 := HC7.out.rt.read zD.out; clear hr7 hb7 hz7 hb s5 hz hy)
      go_ret
      exact ⟨by rw [HE.out]; rfl, HC7.out.below⟩
end Go.Proofs.YtfakimbneenfdaaDoor
