/-
  Several texts in one (a claim has room for 60 files): PathRefCheck, RefTree, RefSeal.
-/
import Derived.Test.YtpndccoikhejgaaDoorPk21
import Derived.Test.YtpndccoikhejgaaDoorPk22
import Derived.Test.YtpndccoikhejgaaDoorPk04
import Derived.Test.YtpndccoikhejgaaDoorPk08
import Derived.Test.YtpndccoikhejgaaDoorPk14
import Derived.Test.YtpndccoikhejgaaDoorPk15
import Derived.Test.YtpndccoikhejgaaDoorPk16
import Derived.Test.YtpndccoikhejgaaDoorPk18
import Derived.Test.YtpndccoikhejgaaDoorPk20
namespace Go.Proofs.YtpndccoikhejgaaDoor
open Go.RowKit Go.Great
set_option linter.unusedVariables false
set_option maxRecDepth 100000

attribute [local go_sem ↓ high] read_at write_at neq_at
set_option maxHeartbeats 8000000 in
theorem refCheck_any (leaf root : List Int) (hl32 : leaf.length = 32 ∧ bytes leaf) (hr32 : root.length = 32 ∧ bytes root) (i n : Int) (hi64 : -9223372036854775808 ≤ i ∧ i ≤ 9223372036854775807) (hn64 : -9223372036854775808 ≤ n ∧ n ≤ 9223372036854775807)
    (p : List (List Int)) (hp : hashes p) (A : Option Addr) (c : Nat) (w : World) (hA : HL w w.heap.size A p) (hc : p.length ≤ c) (hcm : c ≤ 9223372036854775807) :
    Calls Tryd.prog 65 #[.agg (nums .u8 leaf), .int .i64 i, .int .i64 n, .slice A p.length c, .agg (nums .u8 root)] w fun e w' => e = .returned (.int .i64 (checkF leaf i n p root)) ∧ Below w.heap.size w w' := by
  obtain ⟨q, hq⟩ : ∃ q, Hid (q = p.length) := ⟨_, Lib.hid rfl⟩
  obtain ⟨C, hC⟩ : ∃ C, Hid (C = nums .u8 leaf) := ⟨_, Lib.hid rfl⟩
  obtain ⟨D, hD⟩ : ∃ D, Hid (D = nums .u8 root) := ⟨_, Lib.hid rfl⟩
  have zC : Hid (C.size = 32) := Lib.hid (by rw [hC.out, nums_size]; exact hl32.1)
  have zD : Hid (D.size = 32) := Lib.hid (by rw [hD.out, nums_size]; exact hr32.1)
  have H0 := Lib.hid (CheckH.start w C D)
  have HA := Lib.hid hA
  rw [← hq.out, ← hC.out, ← hD.out]
  clear hA
  by_cases h1 : n < 1
  · have d1 : decide (n < 1) = true := decide_eq_true h1
    have HF : Hid (checkF leaf i n p root = 2) := Lib.hid (checkF_arg (.inl h1))
    rw [HF.out]
    go_enter Tryd.func65, Tryd.ntmps65
    go_upto_region 1 with fail
    refine world_gen (fun wx => CheckH w wx C D) H0.out (fun wx HX => ?_)
    have HX := Lib.hid HX
    go_wp2
    go_ret
    exact ⟨rfl, HX.out.below⟩
  have d1 : decide (n < 1) = false := decide_eq_false h1
  by_cases h2 : 4096 < n
  · have d2 : decide (4096 < n) = true := decide_eq_true h2
    have HF : Hid (checkF leaf i n p root = 2) := Lib.hid (checkF_arg (.inr (.inl h2)))
    rw [HF.out]
    go_enter Tryd.func65, Tryd.ntmps65
    go_upto_region 1 with fail
    refine world_gen (fun wx => CheckH w wx C D) H0.out (fun wx HX => ?_)
    have HX := Lib.hid HX
    go_wp2
    go_ret
    exact ⟨rfl, HX.out.below⟩
  have d2 : decide (4096 < n) = false := decide_eq_false h2
  by_cases h3 : i < 0
  · have d3 : decide (i < 0) = true := decide_eq_true h3
    have HF : Hid (checkF leaf i n p root = 2) := Lib.hid (checkF_arg (.inr (.inr (.inl h3))))
    rw [HF.out]
    go_enter Tryd.func65, Tryd.ntmps65
    go_upto_region 1 with fail
    refine world_gen (fun wx => CheckH w wx C D) H0.out (fun wx HX => ?_)
    have HX := Lib.hid HX
    go_wp2
    go_ret
    exact ⟨rfl, HX.out.below⟩
  have d3 : decide (i < 0) = false := decide_eq_false h3
  by_cases h4 : n ≤ i
  · have d4 : decide (n ≤ i) = true := decide_eq_true h4
    have HF : Hid (checkF leaf i n p root = 2) := Lib.hid (checkF_arg (.inr (.inr (.inr h4))))
    rw [HF.out]
    go_enter Tryd.func65, Tryd.ntmps65
    go_upto_region 1 with fail
    refine world_gen (fun wx => CheckH w wx C D) H0.out (fun wx HX => ?_)
    have HX := Lib.hid HX
    go_wp2
    go_ret
    exact ⟨rfl, HX.out.below⟩
  obtain ⟨I, rfl⟩ : ∃ I : Nat, i = I := ⟨i.toNat, by omega⟩
  obtain ⟨N, rfl⟩ : ∃ N : Nat, n = N := ⟨n.toNat, by omega⟩
  have d4 : decide ((N : Int) ≤ (I : Int)) = false := decide_eq_false h4
  have hIN : I < N := by omega
  have d5 : decide (N ≤ I) = false := decide_eq_false (by omega)
  have d6 : (I : Int) < (N : Int) := by omega
  have d7 : ¬ ((N : Int) ≤ (I : Int)) := h4
  have HIN := Lib.hid hIN
  obtain ⟨R, hR⟩ : ∃ R, Hid (R = comeL leaf I (N - 1) p) := ⟨_, Lib.hid rfl⟩
  have X1 : Hid (∀ W, Below w.heap.size w W → Calls Tryd.prog 87 #[.agg C, .int .i64 (I : Int), .int .i64 (N : Int), .slice A q c] W (GivesC W R)) := Lib.hid fun W hW => by
    have := (refCome_any p.reverse leaf I N A c W hl32 hIN (by omega) (by rw [List.reverse_reverse]; exact hp) (by rw [List.reverse_reverse]; exact HA.out.from hW) (by rw [List.length_reverse]; exact hc) hcm)
    rw [comeR_L leaf I N hIN p, List.length_reverse, ← hC.out, ← hq.out, ← hR.out] at this
    exact this
  have HF : Hid (checkF leaf (I : Int) (N : Int) p root = if R = some root then 0 else 80) := Lib.hid (by rw [hR.out]; exact checkF_in hIN (by omega))
  obtain ⟨E, hE⟩ : ∃ E, Hid (E = checkF leaf (I : Int) (N : Int) p root) := ⟨_, Lib.hid rfl⟩
  rw [← hE.out]
  have HR32 := Lib.hid hr32
  clear hp hl32 hr32 h1 h2 h3 h4 hIN
  go_enter Tryd.func65, Tryd.ntmps65
  go_upto_region 1 with fail
  refine world_gen (fun wx => CheckH w wx C D) H0.out (fun wx HX => ?_)
  have HX := Lib.hid HX
  have s5 := HX.out.h.read zC.out
  have HBX := Lib.hid HX.out.below
  cases hRR : R with
  | none =>
    rw [hRR] at X1 HF
    have HE : Hid (E = 80) := Lib.hid (by rw [hE.out, HF.out, if_neg (by intro h; cases h)])
    clear hR
    go_wp2_with (go_at_call 87; (with_reducible refine (X1.out _ HBX.out).mono ?_); rintro e w6 ⟨⟨Z, rfl, hz, hy⟩, hb⟩; obtain ⟨Y, hY⟩ : ∃ Y, Hid (Y = nums .u8 Z) := ⟨_, Lib.hid rfl⟩; rw [← hY.out]; have zY : Hid (Y.size = 32) := Lib.hid (by rw [hY.out, nums_size]; exact hz.1); have oY : Hid (Y.all (·.oneCell') = true) := Lib.hid (by rw [hY.out]; exact nums_one _ _); obtain ⟨w7, s7, hr7, hb7, hz7⟩ := made_write w6 Y zY.out oY.out; have HC7 := Lib.hid ((HX.out.next hb).next hb7); clear hr7 hb7 hz7 hb s5 hz hy)
    go_ret
    exact ⟨by rw [HE.out]; rfl, HC7.out.below⟩
  | some y =>
    rw [hRR] at X1 HF
    clear hR
    by_cases he : y = root
    · subst he
      have HE : Hid (E = 0) := Lib.hid (by rw [hE.out, HF.out, if_pos rfl])
      have q1 : Hid (∀ (Z : List Int), (Z.length = 32 ∧ bytes Z) → Z = y → ∀ W, (neqAt (.agg (nums .u8 Z)) (.agg D)).run Tryd.prog W = .ok (.bool false) W) := Lib.hid fun Z hz hzy W => by
        rw [hD.out, neqAt_hash Z y hz.1 HR32.out.1 hz.2 HR32.out.2 W, decide_eq_true hzy]; rfl
      go_wp2_with (go_at_call 87; (with_reducible refine (X1.out _ HBX.out).mono ?_); rintro e w6 ⟨⟨Z, rfl, hz, hy⟩, hb⟩; have q2 := q1.out Z hz (hy y rfl); obtain ⟨Y, hY⟩ : ∃ Y, Hid (Y = nums .u8 Z) := ⟨_, Lib.hid rfl⟩; rw [← hY.out] at q2 ⊢; have zY : Hid (Y.size = 32) := Lib.hid (by rw [hY.out, nums_size]; exact hz.1); have oY : Hid (Y.all (·.oneCell') = true) := Lib.hid (by rw [hY.out]; exact nums_one _ _); obtain ⟨w7, s7, hr7, hb7, hz7⟩ := made_write w6 Y zY.out oY.out; have HC7 := Lib.hid ((HX.out.next hb).next hb7); have s8 := hr7.read zY.out; have s9 := HC7.out.rt.read zD.out; clear hr7 hb7 hz7 hb s5 hz hy)
      go_ret
      exact ⟨by rw [HE.out]; rfl, HC7.out.below⟩
    · have q1 : Hid (∀ (Z : List Int), (Z.length = 32 ∧ bytes Z) → Z = y → ∀ W, (neqAt (.agg (nums .u8 Z)) (.agg D)).run Tryd.prog W = .ok (.bool true) W) := Lib.hid fun Z hz hzy W => by
        rw [hD.out, neqAt_hash Z root hz.1 HR32.out.1 hz.2 HR32.out.2 W, decide_eq_false (by rw [hzy]; exact he)]; rfl
      have HE : Hid (E = 80) := Lib.hid (by rw [hE.out, HF.out, if_neg (fun h => he (Option.some.inj h))])
      clear he
      go_wp2_with (go_at_call 87; (with_reducible refine (X1.out _ HBX.out).mono ?_); rintro e w6 ⟨⟨Z, rfl, hz, hy⟩, hb⟩; have q2 := q1.out Z hz (hy y rfl); obtain ⟨Y, hY⟩ : ∃ Y, Hid (Y = nums .u8 Z) := ⟨_, Lib.hid rfl⟩; rw [← hY.out] at q2 ⊢; have zY : Hid (Y.size = 32) := Lib.hid (by rw [hY.out, nums_size]; exact hz.1); have oY : Hid (Y.all (·.oneCell') = true) := Lib.hid (by rw [hY.out]; exact nums_one _ _); obtain ⟨w7, s7, hr7, hb7, hz7⟩ := made_write w6 Y zY.out oY.out; have HC7 := Lib.hid ((HX.out.next hb).next hb7); have s8 := hr7.read zY.out; have s9 := HC7.out.rt.read zD.out; clear hr7 hb7 hz7 hb s5 hz hy)
      go_ret
      exact ⟨by rw [HE.out]; rfl, HC7.out.below⟩
end Go.Proofs.YtpndccoikhejgaaDoor
namespace Go.Proofs.YtpndccoikhejgaaDoor
open Go.RowKit Go.Great
set_option linter.unusedVariables false
set_option maxRecDepth 100000

theorem keys_next (seed : ByteArray) (k : Nat) (h : k < 8) : (keysF seed).take (k + 1) = (keysF seed).take k ++ [keyF (pubN seed k 512)] := by
  have hl : k < (keysF seed).length := by rw [keysF_length]; exact h
  have e := keysF_get seed k h
  rw [List.getD_eq_getElem?_getD, List.getElem?_eq_getElem hl] at e
  rw [List.take_succ_eq_append_getElem hl]
  congr 2
attribute [local go_sem ↓ high] read_at write_at
end Go.Proofs.YtpndccoikhejgaaDoor
namespace Go.Proofs.YtpndccoikhejgaaDoor
open Go.RowKit Go.Great
set_option linter.unusedVariables false
set_option maxRecDepth 100000

/-- What Sign holds: the digest, and its result. -/
def SlH (w wr : World) (D : Array Value) : Prop := Row wr w.heap.size 23 D ∧ Row wr (w.heap.size + 1) 32 (sealV 0 ⟨#[]⟩ none 0 0) ∧ Below w.heap.size w wr
theorem SlH.start (w : World) (D : Array Value) : SlH w ((w.alloc (.cells D 23)).alloc (.cells (sealV 0 ⟨#[]⟩ none 0 0) 32)) D :=
  ⟨(Row.made _ _ _).alloc _, Row.made2 _ _ _ _, ((Below.refl _ _).alloc (Nat.le_refl _) _).alloc (by simp) _⟩
theorem SlH.next {w wr w1 : World} {D : Array Value} (h : SlH w wr D) (hb : Below wr.heap.size wr w1) : SlH w w1 D := ⟨h.1.next hb, h.2.1.next hb, below_new h.2.2 hb⟩
/-- A list of hashes does not lie in a seal's block. -/
theorem HW.far_seal {w : World} {A : Option Addr} {ls : List (List Int)} (h : HW w A ls) {g : Nat} {t : TypeId} {i : Int} {s : ByteArray} {B : Option Addr} {n c : Nat} (hr : Row w g t (sealV i s B n c)) (D : Array Value) : HW (w.setRow g D) A ls := fun k hk => by
  obtain ⟨ad, e, hb, hc⟩ := h k hk
  refine ⟨ad, e, by simpa using hb, fun j hj => ?_⟩
  have hcj := hc j hj
  have hne : (ad.add (k * 32 + j)).block ≠ g := by
    intro he
    have hr' : w.heap[g]? = some (.cells (sealV i s B n c) t (0, 0)) := hr
    simp only [World.cell?, he, hr'] at hcj
    generalize (ad.add (k * 32 + j)).off = o at hcj
    match o with
    | 0 => simp [sealV] at hcj
    | 1 => simp [sealV] at hcj
    | 2 => simp [sealV] at hcj
    | (q + 3) => simp [sealV] at hcj
  rw [World.cell?_of_block (setRow_other w g _ D hne)]
  exact hcj
attribute [local go_sem ↓ high] read_at write_at read_s write_s
/-- What Verify holds: the root, the digest, the seal. -/
structure VfH (w wr : World) (R D S : Array Value) : Prop where
  root : Row wr w.heap.size 23 R
  dig : Row wr (w.heap.size + 1) 23 D
  seal_ : Row wr (w.heap.size + 2) 32 S
  below : Below w.heap.size w wr
theorem VfH.start (w : World) (R D S : Array Value) : VfH w (((w.alloc (.cells R 23)).alloc (.cells D 23)).alloc (.cells S 32)) R D S :=
  ⟨((Row.made _ _ _).alloc _).alloc _, (Row.made2 _ _ _ _).alloc _, by have := Row.made ((w.alloc (.cells R 23)).alloc (.cells D 23)) 32 S; simpa using this, (((Below.refl _ _).alloc (Nat.le_refl _) _).alloc (by simp) _).alloc (by simp; omega) _⟩
theorem VfH.next {w wr w1 : World} {R D S : Array Value} (h : VfH w wr R D S) (hb : Below wr.heap.size wr w1) : VfH w w1 R D S := ⟨h.root.next hb, h.dig.next hb, h.seal_.next hb, below_new h.below hb⟩
set_option maxHeartbeats 4000000 in
theorem refVerify_any (root d : List Int) (hr : root.length = 32 ∧ bytes root) (hd : d.length = 32 ∧ bytes d) (i : Int) (h64 : -9223372036854775808 ≤ i ∧ i ≤ 9223372036854775807) (s : ByteArray) (hs : s.size ≤ maxLen) (p : List (List Int)) (hp : hashes p) (A : Option Addr) (c : Nat) (w : World) (hA : HW w A p) (hc : p.length ≤ c) (hcm : c ≤ maxLen) :
    Calls Tryd.prog 42 #[.agg (nums .u8 root), .agg (nums .u8 d), .agg (sealV i s A p.length c)] w fun e w' => e = .returned (.int .i64 (verF root d i s p)) ∧ Below w.heap.size w w' := by
  obtain ⟨n, hn⟩ : ∃ n, Hid (n = p.length) := ⟨_, Lib.hid rfl⟩
  obtain ⟨R, hR⟩ : ∃ R, Hid (R = nums .u8 root) := ⟨_, Lib.hid rfl⟩
  obtain ⟨D, hD⟩ : ∃ D, Hid (D = nums .u8 d) := ⟨_, Lib.hid rfl⟩
  have zR : Hid (R.size = 32) := Lib.hid (by rw [hR.out, nums_size]; exact hr.1)
  have zD : Hid (D.size = 32) := Lib.hid (by rw [hD.out, nums_size]; exact hd.1)
  have H0 := Lib.hid (VfH.start w R D (sealV i s A n c))
  rw [← hn.out, ← hR.out, ← hD.out]
  by_cases h : i < 0 ∨ 7 < i
  · have HV : Hid (verF root d i s p = 2) := Lib.hid (verF_arg h)
    rw [HV.out]
    by_cases h1 : i < 0
    · have d1 : decide (i < 0) = true := decide_eq_true h1
      clear h h1 hr hd h64 hs hp hA hc hcm hn hR hD
      go_enter Tryd.func42, Tryd.ntmps42
      go_upto_region 1 with fail
      refine world_gen (fun X => VfH w X R D (sealV i s A n c)) H0.out (fun X HX => ?_)
      have HX := Lib.hid HX
      obtain ⟨c0, c1, c2⟩ := seal_cells HX.out.seal_
      go_wp2
      go_ret
      exact ⟨rfl, HX.out.below⟩
    · have d1 : decide (i < 0) = false := decide_eq_false h1
      have d2 : decide (7 < i) = true := decide_eq_true (h.resolve_left h1)
      clear h h1 hr hd h64 hs hp hA hc hcm hn hR hD
      go_enter Tryd.func42, Tryd.ntmps42
      go_upto_region 1 with fail
      refine world_gen (fun X => VfH w X R D (sealV i s A n c)) H0.out (fun X HX => ?_)
      have HX := Lib.hid HX
      obtain ⟨c0, c1, c2⟩ := seal_cells HX.out.seal_
      go_wp2
      go_ret
      exact ⟨rfl, HX.out.below⟩
  · have d1 : decide (i < 0) = false := decide_eq_false (by omega)
    have d2 : decide (7 < i) = false := decide_eq_false (by omega)
    obtain ⟨I, hI⟩ : ∃ I : Nat, i = I := ⟨i.toNat, by omega⟩
    have HVF : Hid (verF root d i s p = if (recF s d).2 = 0 ∧ checkF (recF s d).1 i 8 p root = 0 then 0 else 81) := Lib.hid (by rw [hI]; exact verF_in (by omega))
    obtain ⟨x, hx⟩ : ∃ x, Hid (x = (recF s d).1) := ⟨_, Lib.hid rfl⟩
    obtain ⟨e1, he1⟩ : ∃ e, Hid (e = (recF s d).2) := ⟨_, Lib.hid rfl⟩
    obtain ⟨X1, hX1⟩ : ∃ X, Hid (X = nums .u8 x) := ⟨_, Lib.hid rfl⟩
    have hx32 : Hid (x.length = 32 ∧ bytes x) := Lib.hid (by rw [hx.out]; exact recF_is _ _)
    have zX : Hid (X1.size = 32) := Lib.hid (by rw [hX1.out, nums_size]; exact hx32.out.1)
    have oX : Hid (X1.all (·.oneCell') = true) := Lib.hid (by rw [hX1.out]; exact nums_one _ _)
    obtain ⟨e2, he2⟩ : ∃ e, Hid (e = checkF x i 8 p root) := ⟨_, Lib.hid rfl⟩
    have XR : Hid (∀ W, Calls Tryd.prog 64 #[.string s, .agg D] W fun e w' => e = .returned (.tuple #[.agg X1, .int .i64 e1]) ∧ Below W.heap.size W w') := Lib.hid fun W => by
      rw [hD.out, hX1.out, hx.out, he1.out]; exact refRecover_any s hs d hd W
    have XC : Hid (∀ W, Below w.heap.size w W → Calls Tryd.prog 65 #[.agg X1, .int .i64 i, .int .i64 8, .slice A n c, .agg R] W fun e w' => e = .returned (.int .i64 e2) ∧ Below W.heap.size W w') := Lib.hid fun W hW => by
      rw [hX1.out, hR.out, he2.out, hn.out]; exact refCheck_any x root hx32.out hr i 8 h64 (by omega) p hp A c W (hA.next hW) hc (by unfold maxLen at hcm; omega)
    have HV : Hid (verF root d i s p = if e1 = 0 ∧ e2 = 0 then 0 else 81) := Lib.hid (by rw [HVF.out, ← hx.out, ← he1.out, ← he2.out])
    rw [HV.out]
    clear h hr hd h64 hs hp hA hc hcm hn hR hD hI HVF HV hx he1 he2 hX1
    by_cases q1 : e1 = 0
    · have b1 : (e1 == 0) = true := by simpa using q1
      by_cases q2 : e2 = 0
      · have b2 : (e2 == 0) = true := by simpa using q2
        rw [if_pos ⟨q1, q2⟩]
        clear q1 q2
        go_enter Tryd.func42, Tryd.ntmps42
        go_upto_region 1 with fail
        refine world_gen (fun X => VfH w X R D (sealV i s A n c)) H0.out (fun X HX => ?_)
        have HX := Lib.hid HX
        obtain ⟨c0, c1, c2⟩ := seal_cells HX.out.seal_
        have l1 := HX.out.dig.read zD.out
        go_upto_region 4 with (go_at_call 64; (with_reducible refine (XR.out _).mono ?_); rintro e w1 ⟨rfl, hb⟩; obtain ⟨w2, s2, hr2, hb2, hz2⟩ := made_write w1 X1 zX.out oX.out; have H2 := Lib.hid ((HX.out.next hb).next hb2); have HR2 := Lib.hid hr2; clear hr2 hb2 hz2 hb)
        clear s2 l1 c0 c1 c2 HX H0
        obtain ⟨c0, c1, c2⟩ := seal_cells H2.out.seal_
        have l2 := HR2.out.read zX.out
        have l3 := H2.out.root.read zR.out
        go_wp2_with (go_at_call 65; (with_reducible refine (XC.out _ H2.out.below).mono ?_); rintro e w3 ⟨rfl, hb⟩; have H3 := Lib.hid (H2.out.next hb); clear hb)
        go_ret
        exact ⟨rfl, H3.out.below⟩
      · have b2 : (e2 == 0) = false := by simpa using q2
        rw [if_neg (fun h => q2 h.2)]
        clear q1 q2
        go_enter Tryd.func42, Tryd.ntmps42
        go_upto_region 1 with fail
        refine world_gen (fun X => VfH w X R D (sealV i s A n c)) H0.out (fun X HX => ?_)
        have HX := Lib.hid HX
        obtain ⟨c0, c1, c2⟩ := seal_cells HX.out.seal_
        have l1 := HX.out.dig.read zD.out
        go_upto_region 4 with (go_at_call 64; (with_reducible refine (XR.out _).mono ?_); rintro e w1 ⟨rfl, hb⟩; obtain ⟨w2, s2, hr2, hb2, hz2⟩ := made_write w1 X1 zX.out oX.out; have H2 := Lib.hid ((HX.out.next hb).next hb2); have HR2 := Lib.hid hr2; clear hr2 hb2 hz2 hb)
        clear s2 l1 c0 c1 c2 HX H0
        obtain ⟨c0, c1, c2⟩ := seal_cells H2.out.seal_
        have l2 := HR2.out.read zX.out
        have l3 := H2.out.root.read zR.out
        go_wp2_with (go_at_call 65; (with_reducible refine (XC.out _ H2.out.below).mono ?_); rintro e w3 ⟨rfl, hb⟩; have H3 := Lib.hid (H2.out.next hb); clear hb)
        go_ret
        exact ⟨rfl, H3.out.below⟩
    · have b1 : (e1 == 0) = false := by simpa using q1
      rw [if_neg (fun h => q1 h.1)]
      clear q1
      go_enter Tryd.func42, Tryd.ntmps42
      go_upto_region 1 with fail
      refine world_gen (fun X => VfH w X R D (sealV i s A n c)) H0.out (fun X HX => ?_)
      have HX := Lib.hid HX
      obtain ⟨c0, c1, c2⟩ := seal_cells HX.out.seal_
      have l1 := HX.out.dig.read zD.out
      go_upto_region 4 with (go_at_call 64; (with_reducible refine (XR.out _).mono ?_); rintro e w1 ⟨rfl, hb⟩; obtain ⟨w2, s2, hr2, hb2, hz2⟩ := made_write w1 X1 zX.out oX.out; have H2 := Lib.hid ((HX.out.next hb).next hb2); have HR2 := Lib.hid hr2; clear hr2 hb2 hz2 hb)
      clear s2 l1 c0 c1 c2 HX H0
      go_wp2
      go_ret
      exact ⟨rfl, H2.out.below⟩
end Go.Proofs.YtpndccoikhejgaaDoor
