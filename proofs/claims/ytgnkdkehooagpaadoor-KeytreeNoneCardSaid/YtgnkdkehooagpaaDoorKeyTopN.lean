/-
  Proved: called with any number and any hash, the statement KeytreeNone (a tree that is none has no root, and signs nothing) returns true, and its arguments read as before. Condition: the two tables of the package sha hold what the program's text lays, which the card ties to that text.
-/
import Derived.Test.YtgnkdkehooagpaaDoorPk27
import Derived.Test.YtgnkdkehooagpaaDoorPk33
import Derived.Test.YtgnkdkehooagpaaDoorPk04
import Derived.Test.YtgnkdkehooagpaaDoorPk34
namespace Go.Proofs.YtgnkdkehooagpaaDoor
open Go.RowKit Go.Great
set_option linter.unusedVariables false
set_option maxRecDepth 100000

/-- A tree that is none. -/
def noneV (v : Value) (W : World) : Prop := v = .pointer none ∨ ∃ g, v = .pointer (some ⟨g, 0, none⟩) ∧ Row W g 47 (treeZ false ⟨#[]⟩)
theorem noneV.next {v : Value} {W W1 : World} (h : noneV v W) (hb : Below W.heap.size W W1) : noneV v W1 := by
  rcases h with h | ⟨g, h1, h2⟩
  · exact .inl h
  · exact .inr ⟨g, h1, h2.next hb⟩
theorem noneV.says {v : Value} {W : World} (h : noneV v W) : ∀ (i : Int) (d : List Int), num64 i → d.length = 32 ∧ bytes d →
  Calls Tryd.prog 12 #[v, .int .i64 i, .agg (nums .u8 d)] W (GivesS W ((0, ⟨#[]⟩, []), 1)) ∧
  Calls Tryd.prog 10 #[v] W fun e w' => e = .returned (.agg (nums .u8 zeroL)) ∧ Below W.heap.size W w' := fun i d hi hd => by
  rcases h with rfl | ⟨g, rfl, h2⟩
  · exact none_nil i d W trivial hi hd
  · exact none_zero g i d W h2 hi hd
/-- What the statement holds: the digest. -/
structure KnH (w : World) (D : Array Value) (v : Value) (W : World) : Prop where
  dig : Row W w.heap.size 23 D
  nov : noneV v W
  tab : Tab W
  below : Below w.heap.size w W
theorem KnH.next {w W W1 : World} {D : Array Value} {v : Value} (h : KnH w D v W) (hb : Below W.heap.size W W1) : KnH w D v W1 := ⟨h.dig.next hb, h.nov.next hb, h.tab.next hb, below_new h.below hb⟩
theorem KnH.zero {w W : World} {D : Array Value} {v : Value} (h : KnH w D v W) : KnH w D (.pointer (some ⟨W.heap.size, 0, none⟩)) (W.alloc (.cells (treeZ false ⟨#[]⟩) 47)) :=
  have k := h.next ((Below.refl _ _).alloc (Nat.le_refl _) _)
  ⟨k.dig, .inr ⟨_, rfl, Row.made _ _ _⟩, k.tab, k.below⟩
attribute [local go_sem ↓ high] read_at write_at read_s write_s eq_at neq_at
set_option maxHeartbeats 8000000 in
theorem keynonelaw_any (index : Int) (h64 : num64 index) (d : List Int) (hd : d.length = 32 ∧ bytes d) (w : World) (hT : Tab w) :
    Calls Tryd.prog 5 #[.int .i64 index, .agg (nums .u8 d)] w fun e w' => e = .returned (.bool true) ∧ Below w.heap.size w w' := by
  have KED : Hid (∀ W, Tab W → Calls Tryd.prog 7 #[] W fun e w' => e = .returned (.bool true) ∧ Below W.heap.size W w') := Lib.hid fun W h => planted_any treeR tree_says W h
  obtain ⟨D, hD⟩ : ∃ D, Hid (D = nums .u8 d) := ⟨_, Lib.hid rfl⟩
  have zD : Hid (D.size = 32) := Lib.hid (by rw [hD.out, nums_size]; exact hd.1)
  obtain ⟨Z, hZ⟩ : ∃ Z, Hid (Z = nums .u8 zeroL) := ⟨_, Lib.hid rfl⟩
  have z32 : zeroL.length = 32 ∧ bytes zeroL := zeroL_is
  have NZ : ∀ W, (neqAt (.agg Z) (.agg #[.int .u8 0, .int .u8 0, .int .u8 0, .int .u8 0, .int .u8 0, .int .u8 0, .int .u8 0, .int .u8 0, .int .u8 0, .int .u8 0, .int .u8 0, .int .u8 0, .int .u8 0, .int .u8 0, .int .u8 0, .int .u8 0, .int .u8 0, .int .u8 0, .int .u8 0, .int .u8 0, .int .u8 0, .int .u8 0, .int .u8 0, .int .u8 0, .int .u8 0, .int .u8 0, .int .u8 0, .int .u8 0, .int .u8 0, .int .u8 0, .int .u8 0, .int .u8 0])).run Tryd.prog W = .ok (.bool false) W := fun W => by
    have h : (neqAt (.agg Z) (.agg (nums .u8 zeroL))).run Tryd.prog W = .ok (.bool false) W := by
      rw [hZ.out, neqAt_hash _ _ z32.1 z32.1 z32.2 z32.2 W, decide_eq_true rfl]; rfl
    exact h
  have H0 : Hid (KnH w D (.pointer none) (w.alloc (.cells D 23))) := Lib.hid ⟨Row.made _ _ _, .inl rfl, hT.next ((Below.refl _ _).alloc (Nat.le_refl _) _), (Below.refl _ _).alloc (Nat.le_refl _) _⟩
  have X1 : Hid (∀ v W, noneV v W → Calls Tryd.prog 12 #[v, .int .i64 index, .agg D] W fun e w' => ∃ A c, e = .returned (.tuple #[.agg (sealV 0 ⟨#[]⟩ A 0 c), .int .i64 1]) ∧ Below W.heap.size W w') := Lib.hid fun v W h => by
    rw [hD.out]
    refine (h.says index d h64 hd).1.mono ?_
    rintro e w' ⟨A, c, h1, _, _, _, h5⟩
    exact ⟨A, c, h1, h5⟩
  have X2 : Hid (∀ v W, noneV v W → Calls Tryd.prog 10 #[v] W fun e w' => e = .returned (.agg Z) ∧ Below W.heap.size W w') := Lib.hid fun v W h => by
    rw [hZ.out]; exact (h.says index d h64 hd).2
  have X3 : Hid (∀ A c W, Calls Tryd.prog 14 #[.agg (sealV 0 ⟨#[]⟩ A 0 c), .agg #[.int .i64 0, .string ⟨#[]⟩, .slice none 0 0]] W fun e w' => e = .returned (.bool true) ∧ Below W.heap.size W w') := Lib.hid fun A c W => by
    have n0 : hashes ([] : List (List Int)) := fun l hl => by cases hl
    have := sealSame_any 0 0 ⟨#[]⟩ ⟨#[]⟩ [] [] n0 n0 (by decide) (by decide) A none c 0 W (HL.nil _ _ _) (HL.nil _ _ _)
    rwa [decide_eq_true ⟨rfl, rfl, rfl⟩] at this
  rw [← hD.out]
  clear hd h64 hD hZ hT z32
  go_enter Tryd.func5, Tryd.ntmps5
  go_upto_region 1 with fail
  refine world_gen (fun X => KnH w D (.pointer none) X) H0.out (fun X HX => ?_)
  have HX := Lib.hid HX
  clear H0
  go_wp2
  go_loopw [5, 6] (fun s5 s6 wr => ∃ (k : Nat) (v : Value), s6 = .int .i64 ((k : Nat) : Int) ∧ v = s5 ∧ k ≤ 2 ∧ Hid (KnH w D v wr)) (fun _ s6 _ => (2 - intOf s6).toNat)
  case atStart => exact ⟨0, _, rfl, rfl, by omega, HX⟩
  case round =>
    clear HX
    obtain ⟨k, v, rfl, rfl, hk, HQ⟩ := hrel
    by_cases hlt : k < 2
    · have hwk : IntKind.i64.wrap ((k : Int) + 1) = (k : Int) + 1 := by rw [IntKind.wrap_i64]; omega
      have hlt2 : (k : Int) < 2 := by omega
      have l1 := HQ.out.dig.read zD.out
      have hv := HQ.out.nov
      go_upto_region 6 with (go_at_call 12; (with_reducible refine (X1.out _ _ hv).mono ?_); rintro e w2 ⟨A, c, rfl, hb⟩; obtain ⟨w3, s3, hr3, hb3⟩ := made_seal w2 (sealV 0 ⟨#[]⟩ A 0 c) rfl (sealV_one 0 ⟨#[]⟩ A 0 c); have H3 := Lib.hid ((HQ.out.next hb).next hb3); have R3 := Lib.hid hr3; clear hr3 hb3 hb)
      clear s3 l1 hv HQ
      have l2 := R3.out.readS rfl
      go_wp2_with (first
        | (go_at_call 14; (with_reducible refine (X3.out _ _ _).mono ?_); rintro e w4 ⟨rfl, hb⟩; have H4 := Lib.hid (H3.out.next hb); have hv := H4.out.nov; clear hb)
        | (go_at_call 10; (with_reducible refine (X2.out _ _ hv).mono ?_); rintro e w5 ⟨rfl, hb⟩; have H5 := Lib.hid (H4.out.next hb); clear hb)
        | (refine wpList_buildNone rfl rfl ?_))
      have H6 := Lib.hid (KnH.zero H5.out)
      go_roundw
      case rel => exact ⟨k + 1, _, by go_num, rfl, by omega, H6⟩
      case measure => simp [intOf]; omega
    · have hk9 : k = 2 := by omega
      have hlt2 : ¬ (k : Int) < 2 := by omega
      go_wp2_with (go_at_call 7; (with_reducible refine (KED.out _ HQ.out.tab).mono ?_); rintro e w9 ⟨rfl, hb⟩; have HZ := Lib.hid (below_new HQ.out.below hb); clear hb)
      go_ret
      exact ⟨rfl, HZ.out⟩
end Go.Proofs.YtgnkdkehooagpaaDoor
namespace Go.Proofs.YtgnkdkehooagpaaDoor.none_
open Go.ChangeShapes Go.WideShapes Go.ChangeAt Go.RowKit
open Go.ChangeMaps (open_string)
set_option linter.unusedVariables false

set_option maxRecDepth 100000 in
theorem lifted (os : Os) (started : os.Started) (H : Type) (enc : TypeId × Value → H) :
    ReturnsInHanded {} Tryd.checked os 5 .any (fun w args => (Rows.keytreeNoneSpec.pre enc Tryd.prog Tryd.f5 [] false w args ∧ laidMetH Tryd.prog laid2 w) ∧ sizedMet enc Tryd.prog Tryd.f5 (OpenSpec.ofChange Rows.keytreeNoneSpec) false w args)
      (Rows.keytreeNoneSpec.post enc Tryd.prog Tryd.f5 false true false false) := by
  refine returnsInHanded_of_change_and (C := Tryd.checked) (X := fun w _ => laidMetH Tryd.prog laid2 w) (fun _ _ _ hh h => h.of_heap hh) own started (by kernel_rfl) Tryd.func5
    (ChangeSpec.witness_shaped (enc := enc) (C := Tryd.checked) (os := os) (X := fun w _ => laidMetH Tryd.prog laid2 w) false (World.doorLaid Tryd.prog 400 os) #[.int .i64 0, .agg (nums .u8 zero32)] 8 rfl (World.shaped_of_RefB (by kernel_rfl) (by kernel_rfl)) (by kernel_rfl) (by kernel_rfl) (by kernel_rfl) (door_met os _)) ?_
  intro W base args ds gs before hval0 hW _ _ hL _
  have hval : ∀ (j : Nat) t v, Tryd.f5.params[j]? = some t → args[j]? = some v → Value.okWide Tryd.prog W .any base t v := hval0
  have hW' := hW
  obtain ⟨p, q, hA0, hV, rfl, hfz, hnd⟩ := hW
  have hA : DataW.TrodAll enc Tryd.prog W 0 (fun _ => true) true Tryd.f5.params.toList args.toList ds p := hA0
  rw [Tryd.params5] at hA hval
  obtain ⟨v0, vs0, d0, ds0, p0, q0, hargs, rfl, rfl, h0, r0⟩ := trodAll_cons hA
  obtain ⟨v1, vs1, d1, ds1, p1, q1, rfl, rfl, rfl, h1, r1⟩ := trodAll_cons r0
  obtain ⟨rfl, rfl, rfl⟩ := trodAll_nil r1
  obtain rfl : args = #[v0, v1] := by cases args; simp_all
  obtain ⟨rfl, rfl⟩ := trodVars_none hV
  have k1 := h1
  have lt1 : ∀ x ∈ p1, x.block < W.heap.size := by obtain ⟨m, hm⟩ := k1; exact DataW.trod_lt m _ _ _ hm
  obtain ⟨n0, rfl, rfl, rfl, w0⟩ := open_int Tryd.underlying3 (hval 0 3 v0 rfl rfl) h0
  have b0 := bounds_i64 w0
  obtain ⟨l1, rfl, hl1, hb1⟩ := open_hash (hval 1 23 v1 rfl rfl) h1
  clear hA0 hval0
  refine (keynonelaw_any n0 b0 l1 ⟨hl1, hb1⟩ W (of_laid hL)).mono fun e W' ⟨he, bel⟩ => ?_
  subst he
  exact ⟨_, rfl, _, _, _, [], _, [], hW', trodAll_mk1 (shut_bool Tryd.underlying4 _), (trodAll_cons_mk (shut_int Tryd.underlying3 w0) (trodAll_cons_mk (Below.trod laidOut (by kernel_rfl) (of_decide_eq_true (by kernel_rfl)) k1 bel lt1) trodAll_mk0)), rfl, bel.frame _, fun h => by cases h⟩

theorem over : Rows.KeytreeNoneSaid :=
  OpenClaim.holds_of_wide 5 Tryd.f5 rfl rfl rfl rfl rfl rfl rfl ⟨rfl, rfl, rfl, rfl, rfl⟩ rfl rfl rfl rfl rfl (by kernel_rfl) Tryd.func5 (by kernel_rfl)
    (of_decide_eq_true (by kernel_rfl)) (by unfold Func.isWrapper; first | (rw [if_pos (by decide +kernel)]; kernel_rfl) | (rw [if_neg (by decide +kernel)]; exact ⟨rfl, rfl⟩))
    (fun os started H enc _ => lifted os started H enc)

/-- The statement. -/
theorem proved : Rows.KeytreeNoneCardSaid :=
  Claim7.holds_tied_plain_at .later [] [.data, .data] true _ false
    over (fun _ h => by cases h) (by kernel_rfl) (fun _ h => by cases h) keytreeNone_row_tie rfl ⟨rfl, rfl⟩ (by kernel_rfl) rfl
    (fun f fn hf hfn => by
      obtain rfl : f = 5 := Option.some.inj ((show Tryd.prog.funcNamed "speculum/speculumlaw09.KeytreeNone" = some 5 by kernel_rfl).symm.trans hf) |>.symm
      obtain rfl : fn = Tryd.f5 := (Option.some.inj (Tryd.func5.symm.trans hfn)).symm
      exact ⟨by kernel_rfl, fun j t ht => by
        rw [Tryd.params5] at ht
        have hm : t ∈ [3, 23] := by simpa using Array.mem_of_getElem? ht
        have hall : ([3, 23].all fun u => !Tryd.prog.wantsStandIn u) = true := by kernel_rfl
        exact (show Tryd.prog.wantsStandIn t = false by simpa using List.all_eq_true.1 hall t hm)⟩)
    (by kernel_rfl)
#print axioms proved
end Go.Proofs.YtgnkdkehooagpaaDoor.none_
