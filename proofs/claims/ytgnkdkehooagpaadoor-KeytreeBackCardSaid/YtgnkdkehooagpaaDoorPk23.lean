/-
  Several texts in one (a claim has room for 60 files): PathRefCheck, RefTree, RefSeal.
-/
import Derived.Test.YtgnkdkehooagpaaDoorPk21
import Derived.Test.YtgnkdkehooagpaaDoorPk22
import Derived.Test.YtgnkdkehooagpaaDoorPk04
import Derived.Test.YtgnkdkehooagpaaDoorPk05
import Derived.Test.YtgnkdkehooagpaaDoorPk08
import Derived.Test.YtgnkdkehooagpaaDoorPk09
import Derived.Test.YtgnkdkehooagpaaDoorPk17
import Derived.Test.YtgnkdkehooagpaaDoorPk11
import Derived.Test.YtgnkdkehooagpaaDoorPk19
import Derived.Test.YtgnkdkehooagpaaDoorPk20
namespace Go.Proofs.YtgnkdkehooagpaaDoor
open Go.RowKit Go.Great
set_option linter.unusedVariables false
set_option maxRecDepth 100000

attribute [local go_sem ↓ high] read_at write_at neq_at
set_option maxHeartbeats 8000000 in
theorem refCheck_any (leaf root : List Int) (hl32 : leaf.length = 32 ∧ bytes leaf) (hr32 : root.length = 32 ∧ bytes root) (i n : Int) (hi64 : -9223372036854775808 ≤ i ∧ i ≤ 9223372036854775807) (hn64 : -9223372036854775808 ≤ n ∧ n ≤ 9223372036854775807)
    (p : List (List Int)) (hp : hashes p) (A : Option Addr) (c : Nat) (w : World) (hA : HL w w.heap.size A p) (hc : p.length ≤ c) (hcm : c ≤ 9223372036854775807) :
    Calls Tryd.prog 33 #[.agg (nums .u8 leaf), .int .i64 i, .int .i64 n, .slice A p.length c, .agg (nums .u8 root)] w fun e w' => e = .returned (.int .i64 (checkF leaf i n p root)) ∧ Below w.heap.size w w' := by
  obtain ⟨q, hq⟩ : ∃ q, Hid (q = p.length) := ⟨_, Lib.hid rfl⟩
  obtain ⟨C, hC⟩ : ∃ C, Hid (C = nums .u8 leaf) := ⟨_, Lib.hid rfl⟩
  obtain ⟨D, hD⟩ : ∃ D, Hid (D = nums .u8 root) := ⟨_, Lib.hid rfl⟩
  have zC : Hid (C.size = 32) := Lib.hid (by rw [hC.out, nums_size]; exact hl32.1)
  have zD : Hid (D.size = 32) := Lib.hid (by rw [hD.out, nums_size]; exact hr32.1)
  have H0 := Lib.hid (CheckH.start w C D)
  have HA := Lib.hid hA
  rw [← hq.out, ← hC.out, ← hD.out]
  clear hA
  by_cases h1 : n < 1
  · have d1 : decide (n < 1) = true := decide_eq_true h1
    have HF : Hid (checkF leaf i n p root = 2) := Lib.hid (checkF_arg (.inl h1))
    rw [HF.out]
    go_enter Tryd.func33, Tryd.ntmps33
    go_upto_region 1 with fail
    refine world_gen (fun wx => CheckH w wx C D) H0.out (fun wx HX => ?_)
    have HX := Lib.hid HX
    go_wp2
    go_ret
    exact ⟨rfl, HX.out.below⟩
  have d1 : decide (n < 1) = false := decide_eq_false h1
  by_cases h2 : 4096 < n
  · have d2 : decide (4096 < n) = true := decide_eq_true h2
    have HF : Hid (checkF leaf i n p root = 2) := Lib.hid (checkF_arg (.inr (.inl h2)))
    rw [HF.out]
    go_enter Tryd.func33, Tryd.ntmps33
    go_upto_region 1 with fail
    refine world_gen (fun wx => CheckH w wx C D) H0.out (fun wx HX => ?_)
    have HX := Lib.hid HX
    go_wp2
    go_ret
    exact ⟨rfl, HX.out.below⟩
  have d2 : decide (4096 < n) = false := decide_eq_false h2
  by_cases h3 : i < 0
  · have d3 : decide (i < 0) = true := decide_eq_true h3
    have HF : Hid (checkF leaf i n p root = 2) := Lib.hid (checkF_arg (.inr (.inr (.inl h3))))
    rw [HF.out]
    go_enter Tryd.func33, Tryd.ntmps33
    go_upto_region 1 with fail
    refine world_gen (fun wx => CheckH w wx C D) H0.out (fun wx HX => ?_)
    have HX := Lib.hid HX
    go_wp2
    go_ret
    exact ⟨rfl, HX.out.below⟩
  have d3 : decide (i < 0) = false := decide_eq_false h3
  by_cases h4 : n ≤ i
  · have d4 : decide (n ≤ i) = true := decide_eq_true h4
    have HF : Hid (checkF leaf i n p root = 2) := Lib.hid (checkF_arg (.inr (.inr (.inr h4))))
    rw [HF.out]
    go_enter Tryd.func33, Tryd.ntmps33
    go_upto_region 1 with fail
    refine world_gen (fun wx => CheckH w wx C D) H0.out (fun wx HX => ?_)
    have HX := Lib.hid HX
    go_wp2
    go_ret
    exact ⟨rfl, HX.out.below⟩
  obtain ⟨I, rfl⟩ : ∃ I : Nat, i = I := ⟨i.toNat, by omega⟩
  obtain ⟨N, rfl⟩ : ∃ N : Nat, n = N := ⟨n.toNat, by omega⟩
  have d4 : decide ((N : Int) ≤ (I : Int)) = false := decide_eq_false h4
  have hIN : I < N := by omega
  have d5 : decide (N ≤ I) = false := decide_eq_false (by omega)
  have d6 : (I : Int) < (N : Int) := by omega
  have d7 : ¬ ((N : Int) ≤ (I : Int)) := h4
  have HIN := Lib.hid hIN
  obtain ⟨R, hR⟩ : ∃ R, Hid (R = comeL leaf I (N - 1) p) := ⟨_, Lib.hid rfl⟩
  have X1 : Hid (∀ W, Below w.heap.size w W → Calls Tryd.prog 53 #[.agg C, .int .i64 (I : Int), .int .i64 (N : Int), .slice A q c] W (GivesC W R)) := Lib.hid fun W hW => by
    have := (refCome_any p.reverse leaf I N A c W hl32 hIN (by omega) (by rw [List.reverse_reverse]; exact hp) (by rw [List.reverse_reverse]; exact HA.out.from hW) (by rw [List.length_reverse]; exact hc) hcm)
    rw [comeR_L leaf I N hIN p, List.length_reverse, ← hC.out, ← hq.out, ← hR.out] at this
    exact this
  have HF : Hid (checkF leaf (I : Int) (N : Int) p root = if R = some root then 0 else 80) := Lib.hid (by rw [hR.out]; exact checkF_in hIN (by omega))
  obtain ⟨E, hE⟩ : ∃ E, Hid (E = checkF leaf (I : Int) (N : Int) p root) := ⟨_, Lib.hid rfl⟩
  rw [← hE.out]
  have HR32 := Lib.hid hr32
  clear hp hl32 hr32 h1 h2 h3 h4 hIN
  go_enter Tryd.func33, Tryd.ntmps33
  go_upto_region 1 with fail
  refine world_gen (fun wx => CheckH w wx C D) H0.out (fun wx HX => ?_)
  have HX := Lib.hid HX
  have s5 := HX.out.h.read zC.out
  have HBX := Lib.hid HX.out.below
  cases hRR : R with
  | none =>
    rw [hRR] at X1 HF
    have HE : Hid (E = 80) := Lib.hid (by rw [hE.out, HF.out, if_neg (by intro h; cases h)])
    clear hR
    go_wp2_with (go_at_call 53; (with_reducible refine (X1.out _ HBX.out).mono ?_); rintro e w6 ⟨⟨Z, rfl, hz, hy⟩, hb⟩; obtain ⟨Y, hY⟩ : ∃ Y, Hid (Y = nums .u8 Z) := ⟨_, Lib.hid rfl⟩; rw [← hY.out]; have zY : Hid (Y.size = 32) := Lib.hid (by rw [hY.out, nums_size]; exact hz.1); have oY : Hid (Y.all (·.oneCell') = true) := Lib.hid (by rw [hY.out]; exact nums_one _ _); obtain ⟨w7, s7, hr7, hb7, hz7⟩ := made_write w6 Y zY.out oY.out; have HC7 := Lib.hid ((HX.out.next hb).next hb7); clear hr7 hb7 hz7 hb s5 hz hy)
    go_ret
    exact ⟨by rw [HE.out]; rfl, HC7.out.below⟩
  | some y =>
    rw [hRR] at X1 HF
    clear hR
    by_cases he : y = root
    · subst he
      have HE : Hid (E = 0) := Lib.hid (by rw [hE.out, HF.out, if_pos rfl])
      have q1 : Hid (∀ (Z : List Int), (Z.length = 32 ∧ bytes Z) → Z = y → ∀ W, (neqAt (.agg (nums .u8 Z)) (.agg D)).run Tryd.prog W = .ok (.bool false) W) := Lib.hid fun Z hz hzy W => by
        rw [hD.out, neqAt_hash Z y hz.1 HR32.out.1 hz.2 HR32.out.2 W, decide_eq_true hzy]; rfl
      go_wp2_with (go_at_call 53; (with_reducible refine (X1.out _ HBX.out).mono ?_); rintro e w6 ⟨⟨Z, rfl, hz, hy⟩, hb⟩; have q2 := q1.out Z hz (hy y rfl); obtain ⟨Y, hY⟩ : ∃ Y, Hid (Y = nums .u8 Z) := ⟨_, Lib.hid rfl⟩; rw [← hY.out] at q2 ⊢; have zY : Hid (Y.size = 32) := Lib.hid (by rw [hY.out, nums_size]; exact hz.1); have oY : Hid (Y.all (·.oneCell') = true) := Lib.hid (by rw [hY.out]; exact nums_one _ _); obtain ⟨w7, s7, hr7, hb7, hz7⟩ := made_write w6 Y zY.out oY.out; have HC7 := Lib.hid ((HX.out.next hb).next hb7); have s8 := hr7.read zY.out; have s9 := HC7.out.rt.read zD.out; clear hr7 hb7 hz7 hb s5 hz hy)
      go_ret
      exact ⟨by rw [HE.out]; rfl, HC7.out.below⟩
    · have q1 : Hid (∀ (Z : List Int), (Z.length = 32 ∧ bytes Z) → Z = y → ∀ W, (neqAt (.agg (nums .u8 Z)) (.agg D)).run Tryd.prog W = .ok (.bool true) W) := Lib.hid fun Z hz hzy W => by
        rw [hD.out, neqAt_hash Z root hz.1 HR32.out.1 hz.2 HR32.out.2 W, decide_eq_false (by rw [hzy]; exact he)]; rfl
      have HE : Hid (E = 80) := Lib.hid (by rw [hE.out, HF.out, if_neg (fun h => he (Option.some.inj h))])
      clear he
      go_wp2_with (go_at_call 53; (with_reducible refine (X1.out _ HBX.out).mono ?_); rintro e w6 ⟨⟨Z, rfl, hz, hy⟩, hb⟩; have q2 := q1.out Z hz (hy y rfl); obtain ⟨Y, hY⟩ : ∃ Y, Hid (Y = nums .u8 Z) := ⟨_, Lib.hid rfl⟩; rw [← hY.out] at q2 ⊢; have zY : Hid (Y.size = 32) := Lib.hid (by rw [hY.out, nums_size]; exact hz.1); have oY : Hid (Y.all (·.oneCell') = true) := Lib.hid (by rw [hY.out]; exact nums_one _ _); obtain ⟨w7, s7, hr7, hb7, hz7⟩ := made_write w6 Y zY.out oY.out; have HC7 := Lib.hid ((HX.out.next hb).next hb7); have s8 := hr7.read zY.out; have s9 := HC7.out.rt.read zD.out; clear hr7 hb7 hz7 hb s5 hz hy)
      go_ret
      exact ⟨by rw [HE.out]; rfl, HC7.out.below⟩
end Go.Proofs.YtgnkdkehooagpaaDoor
namespace Go.Proofs.YtgnkdkehooagpaaDoor
open Go.RowKit Go.Great
set_option linter.unusedVariables false
set_option maxRecDepth 100000

theorem keys_next (seed : ByteArray) (k : Nat) (h : k < 8) : (keysF seed).take (k + 1) = (keysF seed).take k ++ [keyF (pubN seed k 512)] := by
  have hl : k < (keysF seed).length := by rw [keysF_length]; exact h
  have e := keysF_get seed k h
  rw [List.getD_eq_getElem?_getD, List.getElem?_eq_getElem hl] at e
  rw [List.take_succ_eq_append_getElem hl]
  congr 2
attribute [local go_sem ↓ high] read_at write_at
set_option maxHeartbeats 8000000 in
theorem refLeaves_any (seed : ByteArray) (hs : seed.size ≤ 100000) (w : World) :
    Calls Tryd.prog 9 #[.string seed] w (GivesP w (keysF seed)) := by
  obtain ⟨i0, hi0, hz0, hz1, hz2⟩ := info_parts infoHash
  have PU : Hid (∀ (W : World) (k : Nat), k < 8 → Calls Tryd.prog 21 #[.string seed, .int .i64 (k : Int)] W fun e w' => ∃ A c, e = .returned (.slice A 512 c) ∧ HW w' A (pubN seed k 512) ∧ Below W.heap.size W w') := Lib.hid fun W k hk => by
    refine (refPublic_any seed hs (k : Int) (by omega) W).mono ?_
    rintro e w' ⟨A, c, h1, _, _, h4, h5⟩
    rw [pubF_ok (by omega)] at h1 h4
    rw [pubN_length] at h1
    exact ⟨A, c, h1, h4, h5⟩
  have KY : Hid (∀ (W : World) (A : Option Addr) (c k : Nat), HW W A (pubN seed k 512) → Calls Tryd.prog 20 #[.slice A 512 c] W fun e w' => e = .returned (.agg (nums .u8 (keyF (pubN seed k 512)))) ∧ Below W.heap.size W w') := Lib.hid fun W A c k h => by
    have := refKey_any (pubN seed k 512) (pubN_hashes _ _ _) A c W h (by rw [pubN_length]; decide)
    rwa [pubN_length] at this
  have H0 : Hid (OwnL w w (.slice none 0 0) 0 ((keysF seed).take 0)) := Lib.hid (OwnL.start w)
  clear hs
  go_enter Tryd.func9, Tryd.ntmps9
  go_wp2
  go_loopw [3, 4] (fun s3 s4 wr => ∃ (k : Nat) (v : Value), s4 = .int .i64 ((k : Nat) : Int) ∧ v = s3 ∧ k ≤ 8 ∧ Hid (OwnL w wr v k ((keysF seed).take k))) (fun _ s4 _ => (8 - intOf s4).toNat)
  case atStart => exact ⟨0, _, rfl, rfl, by omega, H0⟩
  case round =>
    clear H0
    obtain ⟨k, v, rfl, rfl, hk, HO⟩ := hrel
    by_cases hlt : k < 8
    · have hwk : IntKind.i64.wrap (k : Int) = (k : Int) := by rw [IntKind.wrap_i64]; omega
      obtain ⟨y, hy⟩ : ∃ y, Hid (y = keyF (pubN seed k 512)) := ⟨_, Lib.hid rfl⟩
      obtain ⟨C, hC⟩ : ∃ C, Hid (C = nums .u8 y) := ⟨_, Lib.hid rfl⟩
      have hy32 : Hid (y.length = 32) := Lib.hid (by rw [hy.out]; exact (keyF_is _).1)
      have zC : Hid (C.size = 32) := Lib.hid (by rw [hC.out, nums_size]; exact hy32.out)
      have HN : Hid ((keysF seed).take (k + 1) = (keysF seed).take k ++ [y]) := Lib.hid (by rw [hy.out]; exact keys_next seed k hlt)
      have X1 : Hid (∀ W, Calls Tryd.prog 21 #[.string seed, .int .i64 (k : Int)] W fun e w' => ∃ A c, e = .returned (.slice A 512 c) ∧ HW w' A (pubN seed k 512) ∧ Below W.heap.size W w') := Lib.hid fun W => PU.out W k hlt
      have X2 : Hid (∀ W A c, HW W A (pubN seed k 512) → Calls Tryd.prog 20 #[.slice A 512 c] W fun e w' => e = .returned (.agg C) ∧ Below W.heap.size W w') := Lib.hid fun W A c h => by
        rw [hC.out, hy.out]; exact KY.out W A c k h
      have hkb : Hid (k + 1 ≤ 8192) := Lib.hid (by omega)
      go_wp2_with (first
        | (go_at_call 21; (with_reducible refine (X1.out _).mono ?_); rintro e w1 ⟨A, c, rfl, hA, hb⟩; have HA := Lib.hid hA; have HB := Lib.hid hb; clear hA hb)
        | (go_at_call 20; (with_reducible refine (X2.out _ _ _ HA.out).mono ?_); rintro e w3 ⟨rfl, hb⟩; have HB3 := Lib.hid (below_new HB.out hb); clear hb)
        | (refine wpList_buildOne rfl _ rfl C rfl zC.out ?_)
        | (at_builtin; refine wpList_append_own _ rfl (.tmp 9) (.tmp 14) 27 rfl w.heap.size 23 i0 _ 32 32 Tryd.underlying27 hi0 hz0 hz1 hz2 (by simp [Value.cells, nums]) (by decide) _ _ _ rfl ((own_below HO.out.1 HB3.out).alloc _) ⟨w3.heap.size, 0, none⟩ 1 1 (y.map (Value.int .u8)) rfl ?cc0 ?cc1 ?cc2 (by have := hkb.out; unfold maxLen; omega) (by have := hkb.out; omega) ?cc5 ?_))
      case cc0 => rw [List.length_map, hy32.out]
      case cc1 =>
        intro j u hj
        rw [add_flat, cell_of_row _ w3.heap.size j _ _ _ (heap_alloc_new w3 _), hC.out]
        simpa [nums] using hj
      case cc2 =>
        intro u hu
        obtain ⟨z, _, rfl⟩ := List.mem_map.1 hu
        rfl
      case cc5 => have := HO.out.2.size; have := HB3.out.size; simp; omega
      intro v' w4 hown hgrow _
      have HO2 : Hid (OwnL w w4 v' (k + 1) ((keysF seed).take (k + 1))) := Lib.hid (by rw [HN.out]; exact HO.out.next HB3.out hown hgrow)
      clear hown hgrow HO HB HB3 HA
      go_wp2
      go_roundw
      case rel => exact ⟨k + 1, _, by go_num, rfl, by omega, HO2⟩
      case measure => simp [intOf]; omega
    · have hk9 : k = 8 := by omega
      have HO2 : Hid (OwnL w wr v 8 (keysF seed)) := Lib.hid (by have := HO.out; rw [hk9, List.take_of_length_le (by rw [keysF_length]; exact Nat.le_refl _)] at this; exact this)
      clear HO hk9
      obtain ⟨A, c, hv, hc, hcm, hA⟩ : ∃ A c, Hid (v = .slice A 8 c) ∧ Hid (8 ≤ c) ∧ Hid (c ≤ maxLen) ∧ Hid (HL wr wr.heap.size A (keysF seed)) := by
        obtain ⟨A, c, e1, e2, e3, e4⟩ := OwnL.lead2 (ls := keysF seed) (by rw [keysF_length]; exact HO2.out) (keysF_hashes _)
        rw [keysF_length] at e1 e2
        exact ⟨A, c, Lib.hid e1, Lib.hid e2, Lib.hid e3, Lib.hid e4⟩
      go_wp2
      go_ret
      exact ⟨A, c, by rw [keysF_length]; exact congrArg Ending.returned hv.out, by rw [keysF_length]; exact hc.out, hcm.out, hA.out, HO2.out.2⟩
set_option maxHeartbeats 2000000 in
theorem refTreeRoot_any (ls : List (List Int)) (hh : hashes ls) (A : Option Addr) (c : Nat) (w : World) (hA : HW w A ls) (hc : ls.length ≤ c) (hcm : c ≤ maxLen) :
    Calls Tryd.prog 11 #[.slice A ls.length c] w fun e w' => e = .returned (.agg (nums .u8 (rootL ls))) ∧ Below w.heap.size w w' := by
  obtain ⟨n, hn⟩ : ∃ n, Hid (n = ls.length) := ⟨_, Lib.hid rfl⟩
  obtain ⟨C, hC⟩ : ∃ C, Hid (C = nums .u8 (rootL ls)) := ⟨_, Lib.hid rfl⟩
  have zC : Hid (C.size = 32) := Lib.hid (by rw [hC.out, nums_size]; exact (rootL_is ls hh).1)
  have oC : Hid (C.all (·.oneCell') = true) := Lib.hid (by rw [hC.out]; exact nums_one _ _)
  have zZ : Hid ((nums .u8 (List.replicate 32 0)).size = 32) := Lib.hid (by rw [nums_size]; simp)
  have X1 : Hid (∀ W, Below w.heap.size w W → Calls Tryd.prog 23 #[.slice A n c] W fun e w' => e = .returned (.agg C) ∧ Below W.heap.size W w') := Lib.hid fun W hW => by
    rw [hn.out, hC.out]; exact refRoot_any ls.length ls A c W (Nat.le_refl _) hh (hA.next hW) hc (by unfold maxLen at hcm; omega)
  have H0 := Lib.hid (OutH.start w)
  rw [← hn.out, ← hC.out]
  clear hA hc hcm hh hn
  go_enter Tryd.func11, Tryd.ntmps11
  go_upto_region 1 with fail
  refine world_gen (fun X => OutH w X) H0.out (fun X HX => ?_)
  have HX := Lib.hid HX
  have hq := HX.out.2
  go_wp2_with (go_at_call 23; (with_reducible refine (X1.out _ hq).mono ?_); rintro e w1 ⟨rfl, hb⟩; have HX := Lib.hid (HX.out.next hb); clear hb; have s6 := HX.out.1.write zZ.out zC.out oC.out)
  refine bodyPost_ret (results_cell_row rfl _ _ w.heap.size 23 _ (0, 0) _ rfl (HX.out.1.whole _) Tryd.underlying23 rfl (sizeH _ zC.out)) rfl ⟨rfl, below_setRow HX.out.2 (Nat.le_refl _)⟩
end Go.Proofs.YtgnkdkehooagpaaDoor
namespace Go.Proofs.YtgnkdkehooagpaaDoor
open Go.RowKit Go.Great
set_option linter.unusedVariables false
set_option maxRecDepth 100000

/-- What Sign holds: the digest, and its result. -/
def SlH (w wr : World) (D : Array Value) : Prop := Row wr w.heap.size 23 D ∧ Row wr (w.heap.size + 1) 32 (sealV 0 ⟨#[]⟩ none 0 0) ∧ Below w.heap.size w wr
theorem SlH.start (w : World) (D : Array Value) : SlH w ((w.alloc (.cells D 23)).alloc (.cells (sealV 0 ⟨#[]⟩ none 0 0) 32)) D :=
  ⟨(Row.made _ _ _).alloc _, Row.made2 _ _ _ _, ((Below.refl _ _).alloc (Nat.le_refl _) _).alloc (by simp) _⟩
theorem SlH.next {w wr w1 : World} {D : Array Value} (h : SlH w wr D) (hb : Below wr.heap.size wr w1) : SlH w w1 D := ⟨h.1.next hb, h.2.1.next hb, below_new h.2.2 hb⟩
/-- A list of hashes does not lie in a seal's block. -/
theorem HW.far_seal {w : World} {A : Option Addr} {ls : List (List Int)} (h : HW w A ls) {g : Nat} {t : TypeId} {i : Int} {s : ByteArray} {B : Option Addr} {n c : Nat} (hr : Row w g t (sealV i s B n c)) (D : Array Value) : HW (w.setRow g D) A ls := fun k hk => by
  obtain ⟨ad, e, hb, hc⟩ := h k hk
  refine ⟨ad, e, by simpa using hb, fun j hj => ?_⟩
  have hcj := hc j hj
  have hne : (ad.add (k * 32 + j)).block ≠ g := by
    intro he
    have hr' : w.heap[g]? = some (.cells (sealV i s B n c) t (0, 0)) := hr
    simp only [World.cell?, he, hr'] at hcj
    generalize (ad.add (k * 32 + j)).off = o at hcj
    match o with
    | 0 => simp [sealV] at hcj
    | 1 => simp [sealV] at hcj
    | 2 => simp [sealV] at hcj
    | (q + 3) => simp [sealV] at hcj
  rw [World.cell?_of_block (setRow_other w g _ D hne)]
  exact hcj
attribute [local go_sem ↓ high] read_at write_at read_s write_s
set_option maxHeartbeats 4000000 in
theorem refTreeSign_any (seed : ByteArray) (hs : seed.size ≤ 100000) (A : Option Addr) (c : Nat) (i : Int) (h64 : -9223372036854775808 ≤ i ∧ i ≤ 9223372036854775807) (d : List Int) (hd : d.length = 32 ∧ bytes d) (w : World) (hA : HW w A (keysF seed)) (hc : 8 ≤ c) (hcm : c ≤ maxLen) :
    Calls Tryd.prog 13 #[.string seed, .slice A 8 c, .int .i64 i, .agg (nums .u8 d)] w (GivesS w (sealF seed i d)) := by
  obtain ⟨D, hD⟩ : ∃ D, Hid (D = nums .u8 d) := ⟨_, Lib.hid rfl⟩
  have zD : Hid (D.size = 32) := Lib.hid (by rw [hD.out, nums_size]; exact hd.1)
  have H0 := Lib.hid (SlH.start w D)
  rw [← hD.out]
  by_cases h : i < 0 ∨ 7 < i
  · rw [sealF_no h]
    have fin : ∀ W, SlH w W D → GivesS w ((0, ⟨#[]⟩, []), 2) (.returned (.tuple #[.agg (sealV 0 ⟨#[]⟩ none 0 0), .int .i64 2])) (W.setRow (w.heap.size + 1) (sealV 0 ⟨#[]⟩ none 0 0)) := fun W hW => ⟨none, 0, rfl, Nat.le_refl _, by decide, HL.nil _ _ _, below_setRow hW.2.2 (by omega)⟩
    by_cases h1 : i < 0
    · have d1 : decide (i < 0) = true := decide_eq_true h1
      clear h hs h64 hd hA hc hcm hD h1
      go_enter Tryd.func13, Tryd.ntmps13
      go_upto_region 1 with fail
      refine world_gen (fun X => SlH w X D) H0.out (fun X HX => ?_)
      have HX := Lib.hid HX
      have s1 := HX.out.2.1.writeS rfl (sealV_size 0 ⟨#[]⟩ none 0 0) (sealV_one 0 ⟨#[]⟩ none 0 0)
      unfold sealV at s1
      go_wp2
      refine bodyPost_ret (results_row2 (p := 8) (u := 9) rfl _ _ (w.heap.size + 1) 32 _ (0, 0) _ rfl (HX.out.2.1.whole _) Tryd.underlying32 rfl (sizeS _ rfl) (.int .i64 2) rfl) rfl (fin X HX.out)
    · have d1 : decide (i < 0) = false := decide_eq_false h1
      have d2 : decide (7 < i) = true := decide_eq_true (h.resolve_left h1)
      clear h hs h64 hd hA hc hcm hD h1
      go_enter Tryd.func13, Tryd.ntmps13
      go_upto_region 1 with fail
      refine world_gen (fun X => SlH w X D) H0.out (fun X HX => ?_)
      have HX := Lib.hid HX
      have s1 := HX.out.2.1.writeS rfl (sealV_size 0 ⟨#[]⟩ none 0 0) (sealV_one 0 ⟨#[]⟩ none 0 0)
      unfold sealV at s1
      go_wp2
      refine bodyPost_ret (results_row2 (p := 8) (u := 9) rfl _ _ (w.heap.size + 1) 32 _ (0, 0) _ rfl (HX.out.2.1.whole _) Tryd.underlying32 rfl (sizeS _ rfl) (.int .i64 2) rfl) rfl (fin X HX.out)
  · obtain ⟨I, rfl⟩ : ∃ I : Nat, i = I := ⟨i.toNat, by omega⟩
    have hI : I < 8 := by omega
    rw [sealF_ok hI]
    have d1 : decide ((I : Int) < 0) = false := decide_eq_false (by omega)
    have d2 : decide (7 < (I : Int)) = false := decide_eq_false (by omega)
    have d3 : ¬ 7 < I := by omega
    have d4 : decide (7 < I) = false := decide_eq_false d3
    obtain ⟨E, hE⟩ : ∃ E, Hid (E = sigF seed I d) := ⟨_, Lib.hid rfl⟩
    obtain ⟨ps, hps⟩ : ∃ ps, Hid (ps = pathL (keysF seed) I) := ⟨_, Lib.hid rfl⟩
    have lps : Hid (ps.length = 3) := Lib.hid (by rw [hps.out]; exact path8_length seed I hI)
    have XP : Hid (∀ W, Below w.heap.size w W → Calls Tryd.prog 27 #[.slice A 8 c, .int .i64 (I : Int)] W fun e w' => ∃ A2 c2, e = .returned (.tuple #[.slice A2 3 c2, .int .i64 0]) ∧ 3 ≤ c2 ∧ c2 ≤ maxLen ∧ HW w' A2 ps ∧ Below W.heap.size W w') := Lib.hid fun W hW => by
      have := refPath_any (keysF seed) (keysF_hashes seed) A c W (hA.next hW) (by rw [keysF_length]; exact hc) hcm (I : Int)
      rw [keysF_length] at this
      refine this.mono ?_
      rintro e w' ⟨A2, c2, e1, e2, e3, e4, e5⟩
      have hp : pathF (keysF seed) (I : Int) = (ps, 0) := by rw [hps.out]; exact pathF_ok (by rw [keysF_length]; exact hI)
      rw [hp] at e1 e2 e4
      rw [show ((ps, (0 : Int)).1.length) = 3 from lps.out] at e1 e2
      exact ⟨A2, c2, e1, e2, e3, e4, e5⟩
    have XS : Hid (∀ W, Calls Tryd.prog 28 #[.string seed, .int .i64 (I : Int), .agg D] W fun e w' => e = .returned (.string E) ∧ Below W.heap.size W w') := Lib.hid fun W => by
      rw [hD.out, hE.out]; exact refSign_any seed hs (I : Int) h64 d hd W
    rw [← hE.out, ← hps.out]
    clear h hs h64 hd hA hc hcm hI hD
    go_enter Tryd.func13, Tryd.ntmps13
    go_upto_region 1 with fail
    refine world_gen (fun X => SlH w X D) H0.out (fun X HX => ?_)
    have HX := Lib.hid HX
    have hq := HX.out.2.2
    go_upto_region 4 with (go_at_call 27; (with_reducible refine (XP.out _ hq).mono ?_); rintro e w1 ⟨A2, c2, rfl, hc2, hcm2, hP, hb⟩; have H1 := Lib.hid (HX.out.next hb); have HP := Lib.hid hP; have HC := Lib.hid (And.intro hc2 hcm2); clear hP hb hc2 hcm2)
    clear hq HX H0
    have l1 := H1.out.1.read zD.out
    go_wp2_with (go_at_call 28; (with_reducible refine (XS.out _).mono ?_); rintro e w2 ⟨rfl, hb⟩; have H2 := Lib.hid (H1.out.next hb); have HP2 := Lib.hid (HP.out.next hb); clear hb l1 H1 HP; have s1 := H2.out.2.1.writeS rfl (sealV_size (I : Int) E A2 3 c2) (sealV_one (I : Int) E A2 3 c2); unfold sealV at s1)
    refine bodyPost_ret (results_row2 (p := 8) (u := 9) rfl _ _ (w.heap.size + 1) 32 _ (0, 0) _ rfl (H2.out.2.1.whole _) Tryd.underlying32 rfl (sizeS _ rfl) (.int .i64 0) rfl) rfl ⟨A2, c2, ?_, ?_, HC.out.2, ?_, below_setRow H2.out.2.2 (by omega)⟩
    · show _ = Ending.returned (.tuple #[.agg (sealV (I : Int) E A2 ps.length c2), .int .i64 0])
      rw [lps.out]; rfl
    · show ps.length ≤ c2
      rw [lps.out]; exact HC.out.1
    · exact HW.far_seal HP2.out H2.out.2.1 _
/-- What Verify holds: the root, the digest, the seal. -/
structure VfH (w wr : World) (R D S : Array Value) : Prop where
  root : Row wr w.heap.size 23 R
  dig : Row wr (w.heap.size + 1) 23 D
  seal_ : Row wr (w.heap.size + 2) 32 S
  below : Below w.heap.size w wr
theorem VfH.start (w : World) (R D S : Array Value) : VfH w (((w.alloc (.cells R 23)).alloc (.cells D 23)).alloc (.cells S 32)) R D S :=
  ⟨((Row.made _ _ _).alloc _).alloc _, (Row.made2 _ _ _ _).alloc _, by have := Row.made ((w.alloc (.cells R 23)).alloc (.cells D 23)) 32 S; simpa using this, (((Below.refl _ _).alloc (Nat.le_refl _) _).alloc (by simp) _).alloc (by simp; omega) _⟩
theorem VfH.next {w wr w1 : World} {R D S : Array Value} (h : VfH w wr R D S) (hb : Below wr.heap.size wr w1) : VfH w w1 R D S := ⟨h.root.next hb, h.dig.next hb, h.seal_.next hb, below_new h.below hb⟩
set_option maxHeartbeats 4000000 in
theorem refVerify_any (root d : List Int) (hr : root.length = 32 ∧ bytes root) (hd : d.length = 32 ∧ bytes d) (i : Int) (h64 : -9223372036854775808 ≤ i ∧ i ≤ 9223372036854775807) (s : ByteArray) (hs : s.size ≤ maxLen) (p : List (List Int)) (hp : hashes p) (A : Option Addr) (c : Nat) (w : World) (hA : HW w A p) (hc : p.length ≤ c) (hcm : c ≤ maxLen) :
    Calls Tryd.prog 16 #[.agg (nums .u8 root), .agg (nums .u8 d), .agg (sealV i s A p.length c)] w fun e w' => e = .returned (.int .i64 (verF root d i s p)) ∧ Below w.heap.size w w' := by
  obtain ⟨n, hn⟩ : ∃ n, Hid (n = p.length) := ⟨_, Lib.hid rfl⟩
  obtain ⟨R, hR⟩ : ∃ R, Hid (R = nums .u8 root) := ⟨_, Lib.hid rfl⟩
  obtain ⟨D, hD⟩ : ∃ D, Hid (D = nums .u8 d) := ⟨_, Lib.hid rfl⟩
  have zR : Hid (R.size = 32) := Lib.hid (by rw [hR.out, nums_size]; exact hr.1)
  have zD : Hid (D.size = 32) := Lib.hid (by rw [hD.out, nums_size]; exact hd.1)
  have H0 := Lib.hid (VfH.start w R D (sealV i s A n c))
  rw [← hn.out, ← hR.out, ← hD.out]
  by_cases h : i < 0 ∨ 7 < i
  · have HV : Hid (verF root d i s p = 2) := Lib.hid (verF_arg h)
    rw [HV.out]
    by_cases h1 : i < 0
    · have d1 : decide (i < 0) = true := decide_eq_true h1
      clear h h1 hr hd h64 hs hp hA hc hcm hn hR hD
      go_enter Tryd.func16, Tryd.ntmps16
      go_upto_region 1 with fail
      refine world_gen (fun X => VfH w X R D (sealV i s A n c)) H0.out (fun X HX => ?_)
      have HX := Lib.hid HX
      obtain ⟨c0, c1, c2⟩ := seal_cells HX.out.seal_
      go_wp2
      go_ret
      exact ⟨rfl, HX.out.below⟩
    · have d1 : decide (i < 0) = false := decide_eq_false h1
      have d2 : decide (7 < i) = true := decide_eq_true (h.resolve_left h1)
      clear h h1 hr hd h64 hs hp hA hc hcm hn hR hD
      go_enter Tryd.func16, Tryd.ntmps16
      go_upto_region 1 with fail
      refine world_gen (fun X => VfH w X R D (sealV i s A n c)) H0.out (fun X HX => ?_)
      have HX := Lib.hid HX
      obtain ⟨c0, c1, c2⟩ := seal_cells HX.out.seal_
      go_wp2
      go_ret
      exact ⟨rfl, HX.out.below⟩
  · have d1 : decide (i < 0) = false := decide_eq_false (by omega)
    have d2 : decide (7 < i) = false := decide_eq_false (by omega)
    obtain ⟨I, hI⟩ : ∃ I : Nat, i = I := ⟨i.toNat, by omega⟩
    have HVF : Hid (verF root d i s p = if (recF s d).2 = 0 ∧ checkF (recF s d).1 i 8 p root = 0 then 0 else 81) := Lib.hid (by rw [hI]; exact verF_in (by omega))
    obtain ⟨x, hx⟩ : ∃ x, Hid (x = (recF s d).1) := ⟨_, Lib.hid rfl⟩
    obtain ⟨e1, he1⟩ : ∃ e, Hid (e = (recF s d).2) := ⟨_, Lib.hid rfl⟩
    obtain ⟨X1, hX1⟩ : ∃ X, Hid (X = nums .u8 x) := ⟨_, Lib.hid rfl⟩
    have hx32 : Hid (x.length = 32 ∧ bytes x) := Lib.hid (by rw [hx.out]; exact recF_is _ _)
    have zX : Hid (X1.size = 32) := Lib.hid (by rw [hX1.out, nums_size]; exact hx32.out.1)
    have oX : Hid (X1.all (·.oneCell') = true) := Lib.hid (by rw [hX1.out]; exact nums_one _ _)
    obtain ⟨e2, he2⟩ : ∃ e, Hid (e = checkF x i 8 p root) := ⟨_, Lib.hid rfl⟩
    have XR : Hid (∀ W, Calls Tryd.prog 32 #[.string s, .agg D] W fun e w' => e = .returned (.tuple #[.agg X1, .int .i64 e1]) ∧ Below W.heap.size W w') := Lib.hid fun W => by
      rw [hD.out, hX1.out, hx.out, he1.out]; exact refRecover_any s hs d hd W
    have XC : Hid (∀ W, Below w.heap.size w W → Calls Tryd.prog 33 #[.agg X1, .int .i64 i, .int .i64 8, .slice A n c, .agg R] W fun e w' => e = .returned (.int .i64 e2) ∧ Below W.heap.size W w') := Lib.hid fun W hW => by
      rw [hX1.out, hR.out, he2.out, hn.out]; exact refCheck_any x root hx32.out hr i 8 h64 (by omega) p hp A c W (hA.next hW) hc (by unfold maxLen at hcm; omega)
    have HV : Hid (verF root d i s p = if e1 = 0 ∧ e2 = 0 then 0 else 81) := Lib.hid (by rw [HVF.out, ← hx.out, ← he1.out, ← he2.out])
    rw [HV.out]
    clear h hr hd h64 hs hp hA hc hcm hn hR hD hI HVF HV hx he1 he2 hX1
    by_cases q1 : e1 = 0
    · have b1 : (e1 == 0) = true := by simpa using q1
      by_cases q2 : e2 = 0
      · have b2 : (e2 == 0) = true := by simpa using q2
        rw [if_pos ⟨q1, q2⟩]
        clear q1 q2
        go_enter Tryd.func16, Tryd.ntmps16
        go_upto_region 1 with fail
        refine world_gen (fun X => VfH w X R D (sealV i s A n c)) H0.out (fun X HX => ?_)
        have HX := Lib.hid HX
        obtain ⟨c0, c1, c2⟩ := seal_cells HX.out.seal_
        have l1 := HX.out.dig.read zD.out
        go_upto_region 4 with (go_at_call 32; (with_reducible refine (XR.out _).mono ?_); rintro e w1 ⟨rfl, hb⟩; obtain ⟨w2, s2, hr2, hb2, hz2⟩ := made_write w1 X1 zX.out oX.out; have H2 := Lib.hid ((HX.out.next hb).next hb2); have HR2 := Lib.hid hr2; clear hr2 hb2 hz2 hb)
        clear s2 l1 c0 c1 c2 HX H0
        obtain ⟨c0, c1, c2⟩ := seal_cells H2.out.seal_
        have l2 := HR2.out.read zX.out
        have l3 := H2.out.root.read zR.out
        go_wp2_with (go_at_call 33; (with_reducible refine (XC.out _ H2.out.below).mono ?_); rintro e w3 ⟨rfl, hb⟩; have H3 := Lib.hid (H2.out.next hb); clear hb)
        go_ret
        exact ⟨rfl, H3.out.below⟩
      · have b2 : (e2 == 0) = false := by simpa using q2
        rw [if_neg (fun h => q2 h.2)]
        clear q1 q2
        go_enter Tryd.func16, Tryd.ntmps16
        go_upto_region 1 with fail
        refine world_gen (fun X => VfH w X R D (sealV i s A n c)) H0.out (fun X HX => ?_)
        have HX := Lib.hid HX
        obtain ⟨c0, c1, c2⟩ := seal_cells HX.out.seal_
        have l1 := HX.out.dig.read zD.out
        go_upto_region 4 with (go_at_call 32; (with_reducible refine (XR.out _).mono ?_); rintro e w1 ⟨rfl, hb⟩; obtain ⟨w2, s2, hr2, hb2, hz2⟩ := made_write w1 X1 zX.out oX.out; have H2 := Lib.hid ((HX.out.next hb).next hb2); have HR2 := Lib.hid hr2; clear hr2 hb2 hz2 hb)
        clear s2 l1 c0 c1 c2 HX H0
        obtain ⟨c0, c1, c2⟩ := seal_cells H2.out.seal_
        have l2 := HR2.out.read zX.out
        have l3 := H2.out.root.read zR.out
        go_wp2_with (go_at_call 33; (with_reducible refine (XC.out _ H2.out.below).mono ?_); rintro e w3 ⟨rfl, hb⟩; have H3 := Lib.hid (H2.out.next hb); clear hb)
        go_ret
        exact ⟨rfl, H3.out.below⟩
    · have b1 : (e1 == 0) = false := by simpa using q1
      rw [if_neg (fun h => q1 h.1)]
      clear q1
      go_enter Tryd.func16, Tryd.ntmps16
      go_upto_region 1 with fail
      refine world_gen (fun X => VfH w X R D (sealV i s A n c)) H0.out (fun X HX => ?_)
      have HX := Lib.hid HX
      obtain ⟨c0, c1, c2⟩ := seal_cells HX.out.seal_
      have l1 := HX.out.dig.read zD.out
      go_upto_region 4 with (go_at_call 32; (with_reducible refine (XR.out _).mono ?_); rintro e w1 ⟨rfl, hb⟩; obtain ⟨w2, s2, hr2, hb2, hz2⟩ := made_write w1 X1 zX.out oX.out; have H2 := Lib.hid ((HX.out.next hb).next hb2); have HR2 := Lib.hid hr2; clear hr2 hb2 hz2 hb)
      clear s2 l1 c0 c1 c2 HX H0
      go_wp2
      go_ret
      exact ⟨rfl, H2.out.below⟩
end Go.Proofs.YtgnkdkehooagpaaDoor
