/-
  The walk of the statement ProofsOther: it returns true; what it makes is new memory, nothing that was there changes. Condition: the two tables as they were laid.
-/
import Derived.Test.YtkjgkeigfebcmaaDoorProofFound
import Derived.Test.YtkjgkeigfebcmaaDoorPathStore
import Derived.Test.YtkjgkeigfebcmaaDoorProofRefCheck
namespace Go.Proofs.YtkjgkeigfebcmaaDoor
open Go.RowKit Go.Great
set_option linter.unusedVariables false
set_option maxRecDepth 100000

/-- What the statement holds: the hash, both roots, the leaves, the proof. -/
structure OtH (w : World) (g10 g : Nat) (H X R : Array Value) (Ap : Option Addr) (ls P : List (List Int)) (W : World) : Prop where
  h : Row W w.heap.size 30 H
  o : Row W g10 30 X
  rt : Row W (g10 + 1) 30 R
  ls : HW W (some ⟨g, 0, none⟩) ls
  path : HW W Ap P
  tab : Tab W
  below : Below w.heap.size w W
theorem OtH.next {w W W1 : World} {g10 g : Nat} {H X R : Array Value} {Ap : Option Addr} {ls P : List (List Int)} (h : OtH w g10 g H X R Ap ls P W) (hb : Below W.heap.size W W1) : OtH w g10 g H X R Ap ls P W1 :=
  ⟨h.h.next hb, h.o.next hb, h.rt.next hb, h.ls.next hb, h.path.next hb, h.tab.next hb, below_new h.below hb⟩
/-- Whether two hashes are the same, two ways. -/
theorem eq_three (x y : List Int) (X Y : Array Value) (hX : Hid (X = nums .u8 x)) (hY : Hid (Y = nums .u8 y)) (hx : x.length = 32 ∧ bytes x) (hy : y.length = 32 ∧ bytes y) (b : Bool) (hb : b = decide (x = y)) :
    (∀ W, (eqAt (.agg X) (.agg Y)).run Tryd.prog W = .ok (.bool b) W) ∧ (∀ W, (neqAt (.agg X) (.agg Y)).run Tryd.prog W = .ok (.bool (!b)) W) := by
  rw [hX.out, hY.out, hb]
  exact ⟨fun W => eqAt_hash x y hx.1 hy.1 hx.2 hy.2 W, fun W => neqAt_hash x y hx.1 hy.1 hx.2 hy.2 W⟩
attribute [local go_sem ↓ high] read_at write_at eq_at neq_at
set_option maxHeartbeats 80000000 in
theorem potherlaw_any (no which : Int) (hno : 0 ≤ no ∧ no ≤ 255) (hwh : 0 ≤ which ∧ which ≤ 255) (h : List Int) (h32 : h.length = 32 ∧ bytes h) (w : World) (hT : Tab w) :
    Calls Tryd.prog 6 #[.int .u8 no, .int .u8 which, .agg (nums .u8 h)] w fun e w' => e = .returned (.bool true) ∧ Below w.heap.size w w' := by
  obtain ⟨N, hN⟩ : ∃ N : Nat, Hid (no.tmod 79 = (N : Int) ∧ N < 79) := ⟨(no % 79).toNat, Lib.hid ⟨by rw [Int.tmod_eq_emod_of_nonneg (by omega)]; omega, by omega⟩⟩
  obtain ⟨m, hm⟩ : ∃ m : Nat, Hid (m = 2 + N) := ⟨_, Lib.hid rfl⟩
  have hN1 := hN.out.2
  have e1 : no.tmod 79 = (N : Int) := hN.out.1
  have e2 : 2 + (N : Int) = (m : Int) := by rw [hm.out]; omega
  have hm1 : 2 ≤ m := by rw [hm.out]; omega
  have hm2 : m ≤ 80 := by rw [hm.out]; omega
  obtain ⟨m1, hmm⟩ : ∃ m1 : Nat, Hid (m = m1 + 1) := ⟨m - 1, Lib.hid (by omega)⟩
  have e21 : (m : Int) - 1 = (m1 : Int) := by have := hmm.out; omega
  have hm10 : 0 < m1 := by have := hmm.out; omega
  obtain ⟨i, hi⟩ : ∃ i : Nat, Hid (which.tmod (m1 : Int) = (i : Int) ∧ i < m1) := ⟨(which % (m1 : Int)).toNat, Lib.hid (by
    have h1 := Int.emod_nonneg which (b := (m1 : Int)) (by omega)
    have h2 := Int.emod_lt_of_pos which (b := (m1 : Int)) (by omega)
    exact ⟨by rw [Int.tmod_eq_emod_of_nonneg (by omega)]; omega, by omega⟩)⟩
  have e3 : which.tmod (m1 : Int) = (i : Int) := hi.out.1
  obtain ⟨a, ha⟩ : ∃ a : Nat, Hid (a = 1 + i) := ⟨_, Lib.hid rfl⟩
  have e22 : 1 + (i : Int) = (a : Int) := by rw [ha.out]; omega
  have ha1 : 1 ≤ a := by rw [ha.out]; omega
  have ham : a < m := by rw [ha.out]; have := hi.out.2; have := hmm.out; omega
  obtain ⟨j, hj⟩ : ∃ j : Nat, Hid ((which.tdiv 2).tmod (a : Int) = (j : Int) ∧ j < a) := ⟨((which / 2) % (a : Int)).toNat, Lib.hid (by
    have h1 := Int.emod_nonneg (which / 2) (b := (a : Int)) (by omega)
    have h2 := Int.emod_lt_of_pos (which / 2) (b := (a : Int)) (by omega)
    exact ⟨by rw [Int.tdiv_eq_ediv_of_nonneg (by omega), Int.tmod_eq_emod_of_nonneg (by omega)]; omega, by omega⟩)⟩
  have ej : (which.tdiv 2).tmod (a : Int) = (j : Int) := hj.out.1
  have hja : j < a := hj.out.2
  have z1 : ¬ ((m1 : Int) = 0) := by omega
  have z2 : ((m1 : Int) == 0) = false := by simp; omega
  have z3 : ¬ ((a : Int) = 0) := by omega
  have z4 : ((a : Int) == 0) = false := by simp; omega
  have z5 : ¬ (a = 0) := by omega
  have hwm : IntKind.i64.wrap (m : Int) = (m : Int) := by rw [IntKind.wrap_i64]; omega
  have hwm1 : IntKind.i64.wrap (m1 : Int) = (m1 : Int) := by rw [IntKind.wrap_i64]; omega
  have hwa : IntKind.i64.wrap (a : Int) = (a : Int) := by rw [IntKind.wrap_i64]; omega
  have hwj : IntKind.i64.wrap (j : Int) = (j : Int) := by rw [IntKind.wrap_i64]; omega
  have hwn : IntKind.i64.wrap no = no := by rw [IntKind.wrap_i64]; omega
  have hww : IntKind.i64.wrap which = which := by rw [IntKind.wrap_i64]; omega
  have hwh2 : 0 ≤ which.tdiv 2 ∧ which.tdiv 2 ≤ 127 := by rw [Int.tdiv_eq_ediv_of_nonneg (by omega)]; omega
  have hw2 : IntKind.u8.wrap (which.tdiv 2) = which.tdiv 2 := by rw [IntKind.wrap_u8]; omega
  have hw3 : IntKind.i64.wrap (which.tdiv 2) = which.tdiv 2 := by rw [IntKind.wrap_i64]; omega
  obtain ⟨ls, hls⟩ : ∃ ls, Hid (ls = someM no m) := ⟨_, Lib.hid rfl⟩
  have hh : hashes ls := by rw [hls.out]; exact someM_hashes no (by omega) m (by omega)
  have ll : Hid (ls.length = m) := Lib.hid (by rw [hls.out, someM_length])
  have lta : Hid ((ls.take a).length = a) := Lib.hid (by rw [List.length_take, ll.out]; omega)
  obtain ⟨x, hx⟩ : ∃ x, Hid (x = rootL (ls.take a)) := ⟨_, Lib.hid rfl⟩
  obtain ⟨rt, hrt⟩ : ∃ r, Hid (r = rootL ls) := ⟨_, Lib.hid rfl⟩
  have hx32 : x.length = 32 ∧ bytes x := by rw [hx.out]; exact rootL_is _ (hashes_take hh a)
  have hrt32 : rt.length = 32 ∧ bytes rt := by rw [hrt.out]; exact rootL_is _ hh
  obtain ⟨H, hH⟩ : ∃ H, Hid (H = nums .u8 h) := ⟨_, Lib.hid rfl⟩
  obtain ⟨R, hR⟩ : ∃ R, Hid (R = nums .u8 rt) := ⟨_, Lib.hid rfl⟩
  obtain ⟨X, hX⟩ : ∃ X, Hid (X = nums .u8 x) := ⟨_, Lib.hid rfl⟩
  have zH : Hid (H.size = 32) := Lib.hid (by rw [hH.out, nums_size]; exact h32.1)
  have oH : Hid (H.all (·.oneCell') = true) := Lib.hid (by rw [hH.out]; exact nums_one _ _)
  have zR : Hid (R.size = 32) := Lib.hid (by rw [hR.out, nums_size]; exact hrt32.1)
  have oR : Hid (R.all (·.oneCell') = true) := Lib.hid (by rw [hR.out]; exact nums_one _ _)
  have zX : Hid (X.size = 32) := Lib.hid (by rw [hX.out, nums_size]; exact hx32.1)
  have oX : Hid (X.all (·.oneCell') = true) := Lib.hid (by rw [hX.out]; exact nums_one _ _)
  obtain ⟨P, hP⟩ : ∃ P, Hid (P = proofL ls a) := ⟨_, Lib.hid rfl⟩
  obtain ⟨q, hq⟩ : ∃ q, Hid (q = P.length) := ⟨_, Lib.hid rfl⟩
  have hPh : Hid (hashes P) := Lib.hid (by rw [hP.out]; exact proofL_hashes a hh)
  have hq7 : q ≤ 13 := by rw [hq.out, hP.out]; exact proofL_length 12 ls a (by rw [ll.out]; omega)
  have hwq : IntKind.i64.wrap (q : Int) = (q : Int) := by rw [IntKind.wrap_i64]; omega
  have KF : Hid (checkP (a : Int) (m : Int) x rt P = 0) := Lib.hid (by
    have := checkP_proof (ls := ls) (m := a) (by rw [ll.out]; omega) (by rw [ll.out]; omega)
    rw [ll.out, ← hP.out, ← hx.out, ← hrt.out] at this; exact this)
  have S0 : Hid (∀ W, Calls Tryd.prog 13 #[.int .i64 (m : Int), .int .u8 no] W fun ev w' => (∃ g c, ev = .returned (.slice (some ⟨g, 0, none⟩) m c) ∧ (m ≤ c ∧ c ≤ maxLen) ∧ HW w' (some ⟨g, 0, none⟩) ls) ∧ Below W.heap.size W w') := Lib.hid fun W => by
    refine (someG_any m (by omega) no (by omega) W).mono ?_
    rintro ev w' ⟨⟨A, c, he, hc, hA, h0⟩, hb⟩
    rcases h0 with h0 | ⟨g, rfl⟩
    · omega
    · exact ⟨⟨g, c, he, hc, by rw [hls.out]; exact hA⟩, hb⟩
  have RR : Hid (∀ W g c, HW W (some ⟨g, 0, none⟩) ls → Tab W → Calls Tryd.prog 14 #[.slice (some ⟨g, 0, none⟩) m c] W fun ev w' => ev = .returned (.agg R) ∧ Below W.heap.size W w') := Lib.hid fun W g c h1 h2 => by
    have := root_any ls hh (some ⟨g, 0, none⟩) c W h1 h2 (by rw [ll.out]; omega)
    rwa [ll.out, ← hrt.out, ← hR.out] at this
  have RA : Hid (∀ W g c, HW W (some ⟨g, 0, none⟩) ls → Tab W → Calls Tryd.prog 14 #[.slice (some ⟨g, 0, none⟩) a c] W fun ev w' => ev = .returned (.agg X) ∧ Below W.heap.size W w') := Lib.hid fun W g c h1 h2 => by
    have := root_any (ls.take a) (hashes_take hh a) (some ⟨g, 0, none⟩) c W (HL.take h1 a) h2 (by rw [lta.out]; omega)
    rwa [lta.out, ← hx.out, ← hX.out] at this
  have PP : Hid (∀ W g c, HW W (some ⟨g, 0, none⟩) ls → Tab W → (m ≤ c ∧ c ≤ maxLen) → Calls Tryd.prog 8 #[.slice (some ⟨g, 0, none⟩) m c, .int .i64 (a : Int)] W fun e w' => ∃ A' c', e = .returned (.tuple #[.slice A' q c', .int .i64 0]) ∧ (q ≤ c' ∧ c' ≤ maxLen) ∧ HW w' A' P ∧ Below W.heap.size W w') := Lib.hid fun W g c h1 h2 h3 => by
    have := proof_any ls hh (some ⟨g, 0, none⟩) c W h1 h2 (by rw [ll.out]; exact h3.1) h3.2 (a : Int)
    rw [proofF_ok (by rw [ll.out]; omega), ← hP.out, ll.out] at this
    refine this.mono ?_
    rintro e w' ⟨A', c', he, h4, h5, h6, h7⟩
    exact ⟨A', c', by rw [hq.out]; exact he, ⟨by rw [hq.out]; exact h4, h5⟩, h6, h7⟩
  -- Check of whatever, the program's and the document's
  have CP : Hid (∀ W B d (y r : List Int) (P' : List (List Int)) (Y Rr : Array Value), HW W B P' → Tab W → hashes P' → P'.length = q → (q ≤ d ∧ d ≤ maxLen) → Y = nums .u8 y → Rr = nums .u8 r → (y.length = 32 ∧ bytes y) → (r.length = 32 ∧ bytes r) → Calls Tryd.prog 11 #[.int .i64 (a : Int), .int .i64 (m : Int), .agg Y, .agg Rr, .slice B q d] W fun e w' => e = .returned (.int .i64 (checkP (a : Int) (m : Int) y r P')) ∧ Below W.heap.size W w') := Lib.hid fun W B d y r P' Y Rr hB hTW hP' hl hd hY hRr hy hr => by
    have := pcheck_any y r hy hr (a : Int) (m : Int) (by omega) (by omega) P' hP' B d W hB hTW (by rw [hl]; exact hd.1) (by have := hd.2; unfold maxLen at this; omega)
    rwa [hl, ← hY, ← hRr] at this
  have CR : Hid (∀ W B d (y r : List Int) (P' : List (List Int)) (Y Rr : Array Value), HW W B P' → hashes P' → P'.length = q → (q ≤ d ∧ d ≤ maxLen) → Y = nums .u8 y → Rr = nums .u8 r → (y.length = 32 ∧ bytes y) → (r.length = 32 ∧ bytes r) → Calls Tryd.prog 12 #[.int .i64 (a : Int), .int .i64 (m : Int), .agg Y, .agg Rr, .slice B q d] W fun e w' => e = .returned (.int .i64 (checkP (a : Int) (m : Int) y r P')) ∧ Below W.heap.size W w') := Lib.hid fun W B d y r P' Y Rr hB hP' hl hd hY hRr hy hr => by
    have := prefCheck_any y r hy hr (a : Int) (m : Int) (by omega) (by omega) P' hP' B d W hB (by rw [hl]; exact hd.1) (by have := hd.2; unfold maxLen at this; omega)
    rwa [hl, ← hY, ← hRr] at this
  have HX32 := Lib.hid hx32
  have HH32 := Lib.hid h32
  have HR32 := Lib.hid hrt32
  have HHs := Lib.hid hh
  have HT := Lib.hid hT
  have HJA := Lib.hid hja
  clear hT h32 hx32 hrt32 hh hN1 hja
  go_enter Tryd.func6, Tryd.ntmps6
  go_upto_region 1 with fail
  refine world_gen (fun W => Row W w.heap.size 30 H ∧ Below w.heap.size w W) ⟨by rw [← hH.out]; exact Row.made _ _ _, (Below.refl _ _).alloc (Nat.le_refl _) _⟩ (fun wx HX => ?_)
  have HX : Hid (Row wx w.heap.size 30 H ∧ Tab wx ∧ Below w.heap.size w wx) := Lib.hid ⟨HX.1, HT.out.next HX.2, HX.2⟩
  go_upto_region 4 with (go_at_call 13; (with_reducible refine (S0.out _).mono ?_); rintro e w1 ⟨⟨g, c, rfl, hc, hA⟩, hb⟩; have H1 : Hid (Row w1 w.heap.size 30 H ∧ HW w1 (some ⟨g, 0, none⟩) ls ∧ Tab w1 ∧ Below w.heap.size w w1) := Lib.hid ⟨HX.out.1.next hb, hA, HX.out.2.1.next hb, below_new HX.out.2.2 hb⟩; have HC := Lib.hid hc; clear hb hA hc)
  have HT1 := Lib.hid H1.out.2.2.1
  have HL1 := Lib.hid H1.out.2.1
  have b1 : (a : Int) ≤ (m : Int) := by omega
  have b2 : (a : Int) ≤ (c : Int) := by have := HC.out.1; omega
  have b3 : (0 : Int) ≤ (a : Int) := by omega
  have b4 : a ≤ c := by have := HC.out.1; omega
  go_upto_region 5 with (first
    | (go_at_call 14; (with_reducible refine (RA.out _ _ _ HL1.out HT1.out).mono ?_); rintro e w2 ⟨rfl, hb⟩; have H2 : Hid (Row w2 w.heap.size 30 H ∧ HW w2 (some ⟨g, 0, none⟩) ls ∧ Tab w2 ∧ Below w.heap.size w w2) := Lib.hid ⟨H1.out.1.next hb, HL1.out.next hb, HT1.out.next hb, below_new H1.out.2.2.2 hb⟩; have HT2 := Lib.hid H2.out.2.2.1; have HL2 := Lib.hid H2.out.2.1; clear hb)
    | (go_at_call 14; (with_reducible refine (RR.out _ _ _ HL2.out HT2.out).mono ?_); rintro e w3 ⟨rfl, hb⟩; obtain ⟨w4, w5, s4, s5, hr4, hr5, hb5, hz5⟩ := made_two w3 X R zX.out oX.out zR.out oR.out; have H5 : Hid (Row w5 w.heap.size 30 H ∧ Row w5 w3.heap.size 30 X ∧ Row w5 (w3.heap.size + 1) 30 R ∧ HW w5 (some ⟨g, 0, none⟩) ls ∧ Tab w5 ∧ Below w.heap.size w w5) := Lib.hid ⟨(H2.out.1.next hb).next hb5, hr4, hr5, (HL2.out.next hb).next hb5, (HT2.out.next hb).next hb5, below_new (below_new H2.out.2.2.2 hb) hb5⟩; clear hr4 hr5 hb5 hz5 hb))
  clear s4 s5
  have HT5 := Lib.hid H5.out.2.2.2.2.1
  have HL5 := Lib.hid H5.out.2.2.2.1
  go_upto_region 6 with (go_at_call 8; (with_reducible refine (PP.out _ _ _ HL5.out HT5.out HC.out).mono ?_); rintro e w6 ⟨Ap, cp, rfl, hcp, hA, hb⟩; have H6 : Hid (OtH w w3.heap.size g H X R Ap ls P w6) := Lib.hid ⟨H5.out.1.next hb, H5.out.2.1.next hb, H5.out.2.2.1.next hb, HL5.out.next hb, hA, HT5.out.next hb, below_new H5.out.2.2.2.2.2 hb⟩; have HCP := Lib.hid hcp; clear hb hA hcp)
  clear HX H1 HT1 HL1 H2 HT2 HL2 H5 HT5 HL5 S0 RR RA PP
  obtain ⟨g10, hg10⟩ : ∃ g10, w3.heap.size = g10 := ⟨_, rfl⟩
  rw [hg10] at H6 ⊢
  clear hg10
  have hcp1 : cp ≤ 9223372036854775807 := by have := HCP.out.2; unfold maxLen at this; omega
  have hcp2 : q ≤ cp := HCP.out.1
  obtain ⟨E1, hE1⟩ : ∃ E, Hid (E = checkP (a : Int) (m : Int) h rt P) := ⟨_, Lib.hid rfl⟩
  obtain ⟨E2, hE2⟩ : ∃ E, Hid (E = checkP (a : Int) (m : Int) x h P) := ⟨_, Lib.hid rfl⟩
  have C1p : Hid (∀ W, OtH w g10 g H X R Ap ls P W → Calls Tryd.prog 11 #[.int .i64 (a : Int), .int .i64 (m : Int), .agg H, .agg R, .slice Ap q cp] W fun e w' => e = .returned (.int .i64 E1) ∧ Below W.heap.size W w') := Lib.hid fun W hW => by
    rw [hE1.out]; exact CP.out W Ap cp h rt P H R hW.path hW.tab hPh.out hq.out.symm HCP.out hH.out hR.out HH32.out HR32.out
  have C1r : Hid (∀ W, OtH w g10 g H X R Ap ls P W → Calls Tryd.prog 12 #[.int .i64 (a : Int), .int .i64 (m : Int), .agg H, .agg R, .slice Ap q cp] W fun e w' => e = .returned (.int .i64 E1) ∧ Below W.heap.size W w') := Lib.hid fun W hW => by
    rw [hE1.out]; exact CR.out W Ap cp h rt P H R hW.path hPh.out hq.out.symm HCP.out hH.out hR.out HH32.out HR32.out
  have C2p : Hid (∀ W, OtH w g10 g H X R Ap ls P W → Calls Tryd.prog 11 #[.int .i64 (a : Int), .int .i64 (m : Int), .agg X, .agg H, .slice Ap q cp] W fun e w' => e = .returned (.int .i64 E2) ∧ Below W.heap.size W w') := Lib.hid fun W hW => by
    rw [hE2.out]; exact CP.out W Ap cp x h P X H hW.path hW.tab hPh.out hq.out.symm HCP.out hX.out hH.out HX32.out HH32.out
  have C2r : Hid (∀ W, OtH w g10 g H X R Ap ls P W → Calls Tryd.prog 12 #[.int .i64 (a : Int), .int .i64 (m : Int), .agg X, .agg H, .slice Ap q cp] W fun e w' => e = .returned (.int .i64 E2) ∧ Below W.heap.size W w') := Lib.hid fun W hW => by
    rw [hE2.out]; exact CR.out W Ap cp x h P X H hW.path hPh.out hq.out.symm HCP.out hX.out hH.out HX32.out HH32.out
  have K1 : Hid (h = x → E1 = 0) := Lib.hid fun e => by rw [hE1.out, e]; exact KF.out
  have K2 : Hid (h = rt → E2 = 0) := Lib.hid fun e => by rw [hE2.out, e]; exact KF.out
  obtain ⟨b1', hb1⟩ : ∃ b : Bool, b = decide (h = x) := ⟨_, rfl⟩
  obtain ⟨b2', hb2⟩ : ∃ b : Bool, b = decide (h = rt) := ⟨_, rfl⟩
  obtain ⟨T1, T1n⟩ := eq_three h x H X hH hX HH32.out HX32.out b1' hb1
  obtain ⟨T2, T2n⟩ := eq_three h rt H R hH hR HH32.out HR32.out b2' hb2
  have T1 := Lib.hid T1
  have T1n := Lib.hid T1n
  have T2 := Lib.hid T2
  have T2n := Lib.hid T2n
  have HOt := H6
  clear H6
  -- the three ways of the first question
  by_cases hA : b1' = false ∧ E1 = 0
  · obtain ⟨rfl, hA2⟩ := hA
    subst hA2
    have N1 : ∀ W, (neqAt (.agg H) (.agg X)).run Tryd.prog W = .ok (.bool true) W := T1n.out
    have r1 := HOt.out.h.read zH.out; have r2 := HOt.out.o.read zX.out; have r3 := HOt.out.rt.read zR.out; have HTB := Lib.hid HOt.out.tab; have HBB := Lib.hid HOt.out.below
    clear hb1 hb2
    go_wp2_with (first
      | (go_at_call 12; (with_reducible refine (C1r.out _ HOt.out).mono ?_); rintro e w5 ⟨rfl, hb⟩; replace HOt := Lib.hid (HOt.out.next hb); clear hb r1 r2 r3; have r1 := HOt.out.h.read zH.out; have r2 := HOt.out.o.read zX.out; have r3 := HOt.out.rt.read zR.out; have HTB := Lib.hid HOt.out.tab; have HBB := Lib.hid HOt.out.below)
      | (go_at_call 12; (with_reducible refine (C2r.out _ HOt.out).mono ?_); rintro e w6 ⟨rfl, hb⟩; replace HOt := Lib.hid (HOt.out.next hb); clear hb r1 r2 r3; have r1 := HOt.out.h.read zH.out; have r2 := HOt.out.o.read zX.out; have r3 := HOt.out.rt.read zR.out; have HTB := Lib.hid HOt.out.tab; have HBB := Lib.hid HOt.out.below)
      | (go_at_call 7; (with_reducible refine (proved_any _ HTB.out).mono ?_); rintro e w9 ⟨rfl, hb⟩; have HB9 := Lib.hid (below_new HBB.out hb); clear hb))
    go_ret
    exact ⟨rfl, HB9.out⟩
  have HA := Lib.hid hA
  by_cases hB : b2' = false ∧ E2 = 0
  · obtain ⟨rfl, hB2⟩ := hB
    subst hB2
    have N2 : ∀ W, (neqAt (.agg H) (.agg R)).run Tryd.prog W = .ok (.bool true) W := T2n.out
    have r1 := HOt.out.h.read zH.out; have r2 := HOt.out.o.read zX.out; have r3 := HOt.out.rt.read zR.out; have HTB := Lib.hid HOt.out.tab; have HBB := Lib.hid HOt.out.below
    cases b1' with
    | true =>
      have N1 : ∀ W, (neqAt (.agg H) (.agg X)).run Tryd.prog W = .ok (.bool false) W := T1n.out
      clear hb1 hb2 hA
      go_wp2_with (first
        | (go_at_call 12; (with_reducible refine (C1r.out _ HOt.out).mono ?_); rintro e w5 ⟨rfl, hb⟩; replace HOt := Lib.hid (HOt.out.next hb); clear hb r1 r2 r3; have r1 := HOt.out.h.read zH.out; have r2 := HOt.out.o.read zX.out; have r3 := HOt.out.rt.read zR.out; have HTB := Lib.hid HOt.out.tab; have HBB := Lib.hid HOt.out.below)
        | (go_at_call 12; (with_reducible refine (C2r.out _ HOt.out).mono ?_); rintro e w6 ⟨rfl, hb⟩; replace HOt := Lib.hid (HOt.out.next hb); clear hb r1 r2 r3; have r1 := HOt.out.h.read zH.out; have r2 := HOt.out.o.read zX.out; have r3 := HOt.out.rt.read zR.out; have HTB := Lib.hid HOt.out.tab; have HBB := Lib.hid HOt.out.below)
        | (go_at_call 7; (with_reducible refine (proved_any _ HTB.out).mono ?_); rintro e w9 ⟨rfl, hb⟩; have HB9 := Lib.hid (below_new HBB.out hb); clear hb))
      go_ret
      exact ⟨rfl, HB9.out⟩
    | false =>
      have N1 : ∀ W, (neqAt (.agg H) (.agg X)).run Tryd.prog W = .ok (.bool true) W := T1n.out
      have f1 : (E1 == 0) = false := by simpa using fun e => HA.out ⟨rfl, e⟩
      clear hb1 hb2 hA
      go_wp2_with (first
        | (go_at_call 12; (with_reducible refine (C1r.out _ HOt.out).mono ?_); rintro e w5 ⟨rfl, hb⟩; replace HOt := Lib.hid (HOt.out.next hb); clear hb r1 r2 r3; have r1 := HOt.out.h.read zH.out; have r2 := HOt.out.o.read zX.out; have r3 := HOt.out.rt.read zR.out; have HTB := Lib.hid HOt.out.tab; have HBB := Lib.hid HOt.out.below)
        | (go_at_call 12; (with_reducible refine (C2r.out _ HOt.out).mono ?_); rintro e w6 ⟨rfl, hb⟩; replace HOt := Lib.hid (HOt.out.next hb); clear hb r1 r2 r3; have r1 := HOt.out.h.read zH.out; have r2 := HOt.out.o.read zX.out; have r3 := HOt.out.rt.read zR.out; have HTB := Lib.hid HOt.out.tab; have HBB := Lib.hid HOt.out.below)
        | (go_at_call 7; (with_reducible refine (proved_any _ HTB.out).mono ?_); rintro e w9 ⟨rfl, hb⟩; have HB9 := Lib.hid (below_new HBB.out hb); clear hb))
      go_ret
      exact ⟨rfl, HB9.out⟩
  have f1 : (E1 == 0) = b1' := by
    cases b1' with
    | true => rw [K1.out (of_decide_eq_true hb1.symm)]; rfl
    | false => simpa using fun e => hA ⟨rfl, e⟩
  have f2 : (E2 == 0) = b2' := by
    cases b2' with
    | true => rw [K2.out (of_decide_eq_true hb2.symm)]; rfl
    | false => simpa using fun e => hB ⟨rfl, e⟩
  have HF := Lib.hid (And.intro f1 f2)
  clear hA hB HA hb1 hb2
  go_cut [68] (fun s68 wx => s68 = .bool false ∧ Hid (OtH w g10 g H X R Ap ls P wx))
  case first =>
    have r1 := HOt.out.h.read zH.out; have r2 := HOt.out.o.read zX.out; have r3 := HOt.out.rt.read zR.out; have HTB := Lib.hid HOt.out.tab; have HBB := Lib.hid HOt.out.below
    cases b1' with
    | true =>
      have N1 : ∀ W, (neqAt (.agg H) (.agg X)).run Tryd.prog W = .ok (.bool false) W := T1n.out
      cases b2' with
      | true =>
        have N2 : ∀ W, (neqAt (.agg H) (.agg R)).run Tryd.prog W = .ok (.bool false) W := T2n.out
        go_wp2_with (first
          | (go_at_call 12; (with_reducible refine (C1r.out _ HOt.out).mono ?_); rintro e w5 ⟨rfl, hb⟩; replace HOt := Lib.hid (HOt.out.next hb); clear hb r1 r2 r3; have r1 := HOt.out.h.read zH.out; have r2 := HOt.out.o.read zX.out; have r3 := HOt.out.rt.read zR.out; have HTB := Lib.hid HOt.out.tab; have HBB := Lib.hid HOt.out.below)
          | (go_at_call 12; (with_reducible refine (C2r.out _ HOt.out).mono ?_); rintro e w6 ⟨rfl, hb⟩; replace HOt := Lib.hid (HOt.out.next hb); clear hb r1 r2 r3; have r1 := HOt.out.h.read zH.out; have r2 := HOt.out.o.read zX.out; have r3 := HOt.out.rt.read zR.out; have HTB := Lib.hid HOt.out.tab; have HBB := Lib.hid HOt.out.below))
        go_meet
        case rel => exact ⟨rfl, HOt⟩
      | false =>
        have N2 : ∀ W, (neqAt (.agg H) (.agg R)).run Tryd.prog W = .ok (.bool true) W := T2n.out
        go_wp2_with (first
          | (go_at_call 12; (with_reducible refine (C1r.out _ HOt.out).mono ?_); rintro e w5 ⟨rfl, hb⟩; replace HOt := Lib.hid (HOt.out.next hb); clear hb r1 r2 r3; have r1 := HOt.out.h.read zH.out; have r2 := HOt.out.o.read zX.out; have r3 := HOt.out.rt.read zR.out; have HTB := Lib.hid HOt.out.tab; have HBB := Lib.hid HOt.out.below)
          | (go_at_call 12; (with_reducible refine (C2r.out _ HOt.out).mono ?_); rintro e w6 ⟨rfl, hb⟩; replace HOt := Lib.hid (HOt.out.next hb); clear hb r1 r2 r3; have r1 := HOt.out.h.read zH.out; have r2 := HOt.out.o.read zX.out; have r3 := HOt.out.rt.read zR.out; have HTB := Lib.hid HOt.out.tab; have HBB := Lib.hid HOt.out.below))
        go_meet
        case rel => exact ⟨rfl, HOt⟩
    | false =>
      have N1 : ∀ W, (neqAt (.agg H) (.agg X)).run Tryd.prog W = .ok (.bool true) W := T1n.out
      cases b2' with
      | true =>
        have N2 : ∀ W, (neqAt (.agg H) (.agg R)).run Tryd.prog W = .ok (.bool false) W := T2n.out
        go_wp2_with (first
          | (go_at_call 12; (with_reducible refine (C1r.out _ HOt.out).mono ?_); rintro e w5 ⟨rfl, hb⟩; replace HOt := Lib.hid (HOt.out.next hb); clear hb r1 r2 r3; have r1 := HOt.out.h.read zH.out; have r2 := HOt.out.o.read zX.out; have r3 := HOt.out.rt.read zR.out; have HTB := Lib.hid HOt.out.tab; have HBB := Lib.hid HOt.out.below)
          | (go_at_call 12; (with_reducible refine (C2r.out _ HOt.out).mono ?_); rintro e w6 ⟨rfl, hb⟩; replace HOt := Lib.hid (HOt.out.next hb); clear hb r1 r2 r3; have r1 := HOt.out.h.read zH.out; have r2 := HOt.out.o.read zX.out; have r3 := HOt.out.rt.read zR.out; have HTB := Lib.hid HOt.out.tab; have HBB := Lib.hid HOt.out.below))
        go_meet
        case rel => exact ⟨rfl, HOt⟩
      | false =>
        have N2 : ∀ W, (neqAt (.agg H) (.agg R)).run Tryd.prog W = .ok (.bool true) W := T2n.out
        go_wp2_with (first
          | (go_at_call 12; (with_reducible refine (C1r.out _ HOt.out).mono ?_); rintro e w5 ⟨rfl, hb⟩; replace HOt := Lib.hid (HOt.out.next hb); clear hb r1 r2 r3; have r1 := HOt.out.h.read zH.out; have r2 := HOt.out.o.read zX.out; have r3 := HOt.out.rt.read zR.out; have HTB := Lib.hid HOt.out.tab; have HBB := Lib.hid HOt.out.below)
          | (go_at_call 12; (with_reducible refine (C2r.out _ HOt.out).mono ?_); rintro e w6 ⟨rfl, hb⟩; replace HOt := Lib.hid (HOt.out.next hb); clear hb r1 r2 r3; have r1 := HOt.out.h.read zH.out; have r2 := HOt.out.o.read zX.out; have r3 := HOt.out.rt.read zR.out; have HTB := Lib.hid HOt.out.tab; have HBB := Lib.hid HOt.out.below))
        go_meet
        case rel => exact ⟨rfl, HOt⟩
  case rest =>
    obtain ⟨rfl, HOt⟩ := hcut
    go_upto_region 8 with fail
    refine wp_region_fk (Below wc.heap.size wc) (.get 0 (.get 1 (.get 2 (.get 3 (.get 4 (.get 5 (.get 6 (.get 7 (.get 10 (.get 11 (.get 12 (.call 8 (.get 9 (.get 13 (.get 14 (.get 15 (.get 16 (.get 17 (.get 18 (.get 19 (.get 20 (.get 23 (.get 24 (.get 25 (.call 21 (.get 22 (.get 26 (.get 27 .done)))))))))))))))))))))))))))) (by kernel_rfl) rfl (by kernel_rfl) (by kernel_rfl) (by intro c a d v w h; cases d <;> exact h) (Below.refl wc.heap.size wc).drew (fun Q' hQ => ?_)
    have HS := Lib.hid (Below.refl wc.heap.size wc).drew
    have HQ := Lib.hid hQ
    clear hQ
    refine wpFk_get rfl (by rfl) (fun K hK => ?_)
    refine ⟨?_, fun w' hS' => ?_, ?_⟩
    rotate_left
    · go_simp
      try (with_reducible rfl)
    try go_simp
    refine hK _ ?_
    clear hK K
    refine wpFk_get rfl (by rfl) (fun K hK => ?_)
    refine ⟨?_, fun w' hS' => ?_, ?_⟩
    rotate_left
    · go_simp
      try (with_reducible rfl)
    try go_simp
    refine hK _ ?_
    clear hK K
    refine wpFk_get rfl (by rfl) (fun K hK => ?_)
    refine ⟨?_, fun w' hS' => ?_, ?_⟩
    rotate_left
    · go_simp
      try (with_reducible rfl)
    try go_simp
    refine hK _ ?_
    clear hK K
    refine wpFk_get rfl (by rfl) (fun K hK => ?_)
    refine ⟨?_, fun w' hS' => ?_, ?_⟩
    rotate_left
    · go_simp
      try (with_reducible rfl)
    try go_simp
    refine hK _ ?_
    clear hK K
    refine wpFk_get rfl (by rfl) (fun K hK => ?_)
    refine ⟨?_, fun w' hS' => ?_, ?_⟩
    rotate_left
    · go_simp
      try (with_reducible rfl)
    try go_simp
    refine hK _ ?_
    clear hK K
    refine wpFk_get rfl (by rfl) (fun K hK => ?_)
    refine ⟨_, fun w' hS' => get_load rfl rfl ((HOt.out.next hS').h.read zH.out), ?_⟩
    try go_simp
    refine hK _ ?_
    clear hK K
    refine wpFk_get rfl (by rfl) (fun K hK => ?_)
    refine ⟨_, fun w' hS' => get_load rfl rfl ((HOt.out.next hS').rt.read zR.out), ?_⟩
    try go_simp
    refine hK _ ?_
    clear hK K
    refine wpFk_get rfl (by rfl) (fun K hK => ?_)
    refine ⟨?_, fun w' hS' => ?_, ?_⟩
    rotate_left
    · go_simp
      try (with_reducible rfl)
    try go_simp
    refine hK _ ?_
    clear hK K
    refine wpFk_get rfl (by rfl) (fun K hK => ?_)
    refine ⟨_, fun w' hS' => get_load rfl rfl ((HOt.out.next hS').h.read zH.out), ?_⟩
    try go_simp
    refine hK _ ?_
    clear hK K
    refine wpFk_get rfl (by rfl) (fun K hK => ?_)
    refine ⟨_, fun w' hS' => get_load rfl rfl ((HOt.out.next hS').o.read zX.out), ?_⟩
    try go_simp
    refine hK _ ?_
    clear hK K
    refine wpFk_get rfl (by rfl) (fun K hK => ?_)
    refine ⟨_, fun w' hS' => get_eqH rfl rfl rfl (T1.out _), ?_⟩
    try go_simp
    refine hK _ ?_
    clear hK K
    refine wpFk_call rfl (by rfl) (fun K hK => ?_)
    go_simp
    go_at_call 11
    refine (C1p.out _ (HOt.out.next HS.out)).mono ?_
    rintro e w2x ⟨rfl, hb⟩
    replace HS := Lib.hid (below_new HS.out hb)
    clear hb
    refine hK _ _ HS.out ?_
    clear hK K
    refine wpFk_get rfl (by rfl) (fun K hK => ?_)
    refine ⟨?_, fun w' hS' => ?_, ?_⟩
    rotate_left
    · go_simp
      try (with_reducible rfl)
    try go_simp
    refine hK _ ?_
    clear hK K
    refine wpFk_get rfl (by rfl) (fun K hK => ?_)
    refine ⟨?_, fun w' hS' => ?_, ?_⟩
    rotate_left
    · go_simp
      try (with_reducible rfl)
    try go_simp
    refine hK _ ?_
    clear hK K
    refine wpFk_get rfl (by rfl) (fun K hK => ?_)
    refine ⟨?_, fun w' hS' => ?_, ?_⟩
    rotate_left
    · go_simp
      try (with_reducible rfl)
    try go_simp
    refine hK _ ?_
    clear hK K
    refine wpFk_get rfl (by rfl) (fun K hK => ?_)
    refine ⟨?_, fun w' hS' => ?_, ?_⟩
    rotate_left
    · go_simp
      try (with_reducible rfl)
    try go_simp
    refine hK _ ?_
    clear hK K
    refine wpFk_get rfl (by rfl) (fun K hK => ?_)
    refine ⟨?_, fun w' hS' => ?_, ?_⟩
    rotate_left
    · go_simp
      try (with_reducible rfl)
    try go_simp
    refine hK _ ?_
    clear hK K
    refine wpFk_get rfl (by rfl) (fun K hK => ?_)
    refine ⟨?_, fun w' hS' => ?_, ?_⟩
    rotate_left
    · go_simp
      try (with_reducible rfl)
    try go_simp
    refine hK _ ?_
    clear hK K
    refine wpFk_get rfl (by rfl) (fun K hK => ?_)
    refine ⟨_, fun w' hS' => get_load rfl rfl ((HOt.out.next hS').o.read zX.out), ?_⟩
    try go_simp
    refine hK _ ?_
    clear hK K
    refine wpFk_get rfl (by rfl) (fun K hK => ?_)
    refine ⟨_, fun w' hS' => get_load rfl rfl ((HOt.out.next hS').h.read zH.out), ?_⟩
    try go_simp
    refine hK _ ?_
    clear hK K
    refine wpFk_get rfl (by rfl) (fun K hK => ?_)
    refine ⟨?_, fun w' hS' => ?_, ?_⟩
    rotate_left
    · go_simp
      try (with_reducible rfl)
    try go_simp
    refine hK _ ?_
    clear hK K
    refine wpFk_get rfl (by rfl) (fun K hK => ?_)
    refine ⟨_, fun w' hS' => get_load rfl rfl ((HOt.out.next hS').h.read zH.out), ?_⟩
    try go_simp
    refine hK _ ?_
    clear hK K
    refine wpFk_get rfl (by rfl) (fun K hK => ?_)
    refine ⟨_, fun w' hS' => get_load rfl rfl ((HOt.out.next hS').rt.read zR.out), ?_⟩
    try go_simp
    refine hK _ ?_
    clear hK K
    refine wpFk_get rfl (by rfl) (fun K hK => ?_)
    refine ⟨_, fun w' hS' => get_eqH rfl rfl rfl (T2.out _), ?_⟩
    try go_simp
    refine hK _ ?_
    clear hK K
    refine wpFk_call rfl (by rfl) (fun K hK => ?_)
    go_simp
    go_at_call 11
    refine (C2p.out _ (HOt.out.next HS.out)).mono ?_
    rintro e w2x ⟨rfl, hb⟩
    replace HS := Lib.hid (below_new HS.out hb)
    clear hb
    refine hK _ _ HS.out ?_
    clear hK K
    refine wpFk_get rfl (by rfl) (fun K hK => ?_)
    refine ⟨?_, fun w' hS' => ?_, ?_⟩
    rotate_left
    · go_simp
      try (with_reducible rfl)
    try go_simp
    refine hK _ ?_
    clear hK K
    refine wpFk_get rfl (by rfl) (fun K hK => ?_)
    refine ⟨?_, fun w' hS' => ?_, ?_⟩
    rotate_left
    · go_simp
      try (with_reducible rfl)
    try go_simp
    refine hK _ ?_
    clear hK K
    refine wpFk_get rfl (by rfl) (fun K hK => ?_)
    refine ⟨?_, fun w' hS' => ?_, ?_⟩
    rotate_left
    · go_simp
      try (with_reducible rfl)
    try go_simp
    refine hK _ ?_
    clear hK K
    refine wpFk_done ?_
    refine HQ.out _ _ ?_
    go_wp2
    have H8 := Lib.hid (HOt.out.next HS.out)
    clear HOt HS HQ f1 f2 T1 T1n T2 T2n C1p C1r C2p C2r
    go_loopw [14] (fun s14 wr => ∃ k : Nat, s14 = .int .i64 (k : Int) ∧ k ≤ q ∧ Hid (OtH w g10 g H X R Ap ls P wr)) (fun s14 _ => (q - intOf s14).toNat)
    case atStart => exact ⟨0, rfl, by omega, H8⟩
    case round =>
      clear H8
      obtain ⟨k, rfl, hkq, HO⟩ := hrel
      by_cases hlt : k < q
      · have d5 : (k : Int) < (q : Int) := by omega
        have hkl : k < P.length := by rw [← hq.out]; exact hlt
        have hwk : IntKind.i64.wrap (k : Int) = (k : Int) := by rw [IntKind.wrap_i64]; omega
        obtain ⟨pd, rfl⟩ := HO.out.path.some k hkl
        obtain ⟨y, hy⟩ : ∃ y, Hid (y = P.getD k []) := ⟨_, Lib.hid rfl⟩
        obtain ⟨Y, hY⟩ : ∃ Y, Hid (Y = nums .u8 y) := ⟨_, Lib.hid rfl⟩
        have hy32 : Hid (y.length = 32 ∧ bytes y) := Lib.hid (by rw [hy.out]; exact hashes_at hPh.out k hkl)
        have hqsm : Hid (q ≤ 8192) := Lib.hid (by omega)
        have HO2 := Lib.hid HO.out.path
        go_upto_region 14 with (at_builtin; refine wpList_appendC rfl (.const (.slice none 0 0)) (.tmp 104) rfl wr.heap.size P rfl (some pd) q cp rfl hq.out hPh.out HO2.out hqsm.out (Nat.le_refl _) ?_; intro v1 w5 ho hg; have HOwn := Lib.hid ho; have HB5 : Hid (Below wr.heap.size wr w5) := Lib.hid ((Below.refl _ _).grown hg (Nat.le_refl _) (by intro k hk; simp at hk)); clear ho hg)
        obtain ⟨g2, c2, rfl, hg2⟩ : ∃ g2 c2, v1 = .slice (some ⟨g2, 0, none⟩) q c2 ∧ Hid ((q ≤ c2 ∧ c2 ≤ maxLen) ∧ wr.heap.size ≤ g2 ∧ w5.there g2 (k * 32) 32 ∧ HW w5 (some ⟨g2, 0, none⟩) P) := by
          obtain ⟨A, c2, e⟩ := own_form HOwn.out
          have hs := own_some (by have := HOwn.out; rw [e] at this; exact this)
          rcases hs.2.2 with ⟨_, h0⟩ | ⟨g2, rfl, h1, h2⟩
          · omega
          · have ho := HOwn.out
            rw [e] at ho
            exact ⟨g2, c2, e, Lib.hid ⟨⟨hs.1, by have := hs.2.1; unfold maxLen; omega⟩, h1, own_room ho k hlt, by rw [hq.out] at ho; exact own_HL ho hPh.out⟩⟩
        have hc2 : q ≤ c2 := hg2.out.1.1
        have HO5 := Lib.hid (HO.out.next HB5.out)
        have s1 : (readAt (.pointer (some ⟨w.heap.size, 0, none⟩))).run Tryd.prog w5 = .ok (.agg H) w5 := HO5.out.h.read zH.out
        have ht : w5.there g2 (k * 32) H.size := by rw [zH.out]; exact hg2.out.2.2.1
        have h6 := sizeH H.size zH.out
        have HPs : Hid (HL (w5.setCells g2 (k * 32) H.toList) w5.heap.size (some ⟨g2, 0, none⟩) (P.set k h)) := Lib.hid (by rw [hH.out]; exact HL.set hg2.out.2.2.2 k hkl h HH32.out.1 hg2.out.2.2.1)
        have HBs : Hid (Below wr.heap.size w5 (w5.setCells g2 (k * 32) H.toList)) := Lib.hid (below_setCells_w hg2.out.2.1 _ _ _)
        have HZs : Hid ((w5.setCells g2 (k * 32) H.toList).heap.size = w5.heap.size) := Lib.hid (size_setCells _ _ _ _)
        go_upto_region 15 with (first
          | (refine wpList_store_mid rfl 30 _ _ rfl g2 (k * 32) H rfl rfl ht h6 oH.out ?_)
          | (refine wpList_store_at rfl 30 _ _ rfl g2 (k * 32) H rfl rfl ht h6 oH.out ?_))
        refine world_gen (fun W => OtH w g10 g H X R (some pd) ls P W ∧ HW W (some ⟨g2, 0, none⟩) (P.set k h)) ⟨HO.out.next (HB5.out.trans HBs.out), by unfold HW; rw [HZs.out]; exact HPs.out⟩ (fun w6 H6 => ?_)
        clear s1 ht h6 HPs HBs HZs HO5 HOwn HB5 HO HO2
        have HQs := Lib.hid H6.2
        have HOt := Lib.hid H6.1
        have hG2 := Lib.hid hg2.out.1
        clear hg2 H6
        have hPs : Hid (hashes (P.set k h) ∧ (P.set k h).length = q) := Lib.hid ⟨setL_hashes hPh.out k h HH32.out, by rw [List.length_set, ← hq.out]⟩
        obtain ⟨E3, hE3⟩ : ∃ E, Hid (E = checkP (a : Int) (m : Int) x rt (P.set k h)) := ⟨_, Lib.hid rfl⟩
        have C3p : Hid (∀ W, Below w6.heap.size w6 W → Calls Tryd.prog 11 #[.int .i64 (a : Int), .int .i64 (m : Int), .agg X, .agg R, .slice (some ⟨g2, 0, none⟩) q c2] W fun e w' => e = .returned (.int .i64 E3) ∧ Below W.heap.size W w') := Lib.hid fun W hW => by
          rw [hE3.out]; exact CP.out W _ c2 x rt (P.set k h) X R (HQs.out.next hW) (HOt.out.next hW).tab hPs.out.1 hPs.out.2 hG2.out hX.out hR.out HX32.out HR32.out
        have C3r : Hid (∀ W, Below w6.heap.size w6 W → Calls Tryd.prog 12 #[.int .i64 (a : Int), .int .i64 (m : Int), .agg X, .agg R, .slice (some ⟨g2, 0, none⟩) q c2] W fun e w' => e = .returned (.int .i64 E3) ∧ Below W.heap.size W w') := Lib.hid fun W hW => by
          rw [hE3.out]; exact CR.out W _ c2 x rt (P.set k h) X R (HQs.out.next hW) hPs.out.1 hPs.out.2 hG2.out hX.out hR.out HX32.out HR32.out
        have RY : Hid (∀ W, Below w6.heap.size w6 W → (readAt (.pointer (some (pd.add (k * 32))))).run Tryd.prog W = .ok (.agg Y) W) := Lib.hid fun W hW => by
          rw [hY.out, hy.out]; exact HL.read (HOt.out.next hW).path hPh.out k hkl
        obtain ⟨b3', hb3⟩ : ∃ b : Bool, b = decide (h = y) := ⟨_, rfl⟩
        obtain ⟨T3, T3n⟩ := eq_three h y H Y hH hY HH32.out hy32.out b3' hb3
        have T3 := Lib.hid T3
        have T3n := Lib.hid T3n
        have K3 : Hid (h = y → E3 = 0) := Lib.hid fun e => by
          rw [hE3.out, show P.set k h = P by rw [e, hy.out, List.getD_eq_getElem?_getD, List.getElem?_eq_getElem hkl]; exact List.set_getElem_self hkl]
          exact KF.out
        clear hkl
        by_cases hA : b3' = false ∧ E3 = 0
        · obtain ⟨rfl, hA2⟩ := hA
          subst hA2
          have N3 : Hid (∀ W, (neqAt (.agg H) (.agg Y)).run Tryd.prog W = .ok (.bool true) W) := T3n
          clear hb3
          refine wp_region_fk (Below w6.heap.size w6) (.get 0 (.get 1 (.get 2 (.get 3 (.get 4 (.get 5 (.get 6 (.get 7 (.get 8 (.get 9 (.get 10 (.get 11 (.call 12 (.get 13 (.get 14 .done))))))))))))))) (by kernel_rfl) rfl (by kernel_rfl) (by kernel_rfl) (by intro c a d v w h; cases d <;> exact h) (Below.refl w6.heap.size w6).drew (fun Q' hQ => ?_)
          have HS := Lib.hid (Below.refl w6.heap.size w6).drew
          have HQ := Lib.hid hQ
          clear hQ
          refine wpFk_get rfl (by rfl) (fun K hK => ?_)
          refine ⟨_, fun w' hS' => get_load rfl rfl ((HOt.out.next hS').h.read zH.out), ?_⟩
          try go_simp
          refine hK _ ?_
          clear hK K
          refine wpFk_get rfl (by rfl) (fun K hK => ?_)
          refine ⟨?_, fun w' hS' => ?_, ?_⟩
          rotate_left
          · go_simp
            try (with_reducible rfl)
          try go_simp
          refine hK _ ?_
          clear hK K
          refine wpFk_get rfl (by rfl) (fun K hK => ?_)
          refine ⟨?_, fun w' hS' => ?_, ?_⟩
          rotate_left
          · go_simp
            try (with_reducible rfl)
          try go_simp
          refine hK _ ?_
          clear hK K
          refine wpFk_get rfl (by rfl) (fun K hK => ?_)
          refine ⟨?_, fun w' hS' => ?_, ?_⟩
          rotate_left
          · go_simp
            try (with_reducible rfl)
          try go_simp
          refine hK _ ?_
          clear hK K
          refine wpFk_get rfl (by rfl) (fun K hK => ?_)
          refine ⟨_, fun w' hS' => get_load rfl rfl (RY.out _ hS'), ?_⟩
          try go_simp
          refine hK _ ?_
          clear hK K
          refine wpFk_get rfl (by rfl) (fun K hK => ?_)
          refine ⟨_, fun w' hS' => get_neqH rfl rfl rfl (N3.out _), ?_⟩
          try go_simp
          refine hK _ ?_
          clear hK K
          refine wpFk_get rfl (by rfl) (fun K hK => ?_)
          refine ⟨?_, fun w' hS' => ?_, ?_⟩
          rotate_left
          · go_simp
            try (with_reducible rfl)
          try go_simp
          refine hK _ ?_
          clear hK K
          refine wpFk_get rfl (by rfl) (fun K hK => ?_)
          refine ⟨?_, fun w' hS' => ?_, ?_⟩
          rotate_left
          · go_simp
            try (with_reducible rfl)
          try go_simp
          refine hK _ ?_
          clear hK K
          refine wpFk_get rfl (by rfl) (fun K hK => ?_)
          refine ⟨?_, fun w' hS' => ?_, ?_⟩
          rotate_left
          · go_simp
            try (with_reducible rfl)
          try go_simp
          refine hK _ ?_
          clear hK K
          refine wpFk_get rfl (by rfl) (fun K hK => ?_)
          refine ⟨_, fun w' hS' => get_load rfl rfl ((HOt.out.next hS').o.read zX.out), ?_⟩
          try go_simp
          refine hK _ ?_
          clear hK K
          refine wpFk_get rfl (by rfl) (fun K hK => ?_)
          refine ⟨_, fun w' hS' => get_load rfl rfl ((HOt.out.next hS').rt.read zR.out), ?_⟩
          try go_simp
          refine hK _ ?_
          clear hK K
          refine wpFk_get rfl (by rfl) (fun K hK => ?_)
          refine ⟨?_, fun w' hS' => ?_, ?_⟩
          rotate_left
          · go_simp
            try (with_reducible rfl)
          try go_simp
          refine hK _ ?_
          clear hK K
          refine wpFk_call rfl (by rfl) (fun K hK => ?_)
          go_simp
          go_at_call 12
          refine (C3r.out _ HS.out).mono ?_
          rintro e w2x ⟨rfl, hb⟩
          replace HS := Lib.hid (below_new HS.out hb)
          clear hb
          refine hK _ _ HS.out ?_
          clear hK K
          refine wpFk_get rfl (by rfl) (fun K hK => ?_)
          refine ⟨?_, fun w' hS' => ?_, ?_⟩
          rotate_left
          · go_simp
            try (with_reducible rfl)
          try go_simp
          refine hK _ ?_
          clear hK K
          refine wpFk_get rfl (by rfl) (fun K hK => ?_)
          refine ⟨?_, fun w' hS' => ?_, ?_⟩
          rotate_left
          · go_simp
            try (with_reducible rfl)
          try go_simp
          refine hK _ ?_
          clear hK K
          refine wpFk_done ?_
          refine HQ.out _ _ ?_
          have HTB := Lib.hid (HOt.out.next HS.out).tab
          have HBB := Lib.hid (HOt.out.next HS.out).below
          go_wp2_with (go_at_call 7; (with_reducible refine (proved_any _ HTB.out).mono ?_); rintro e w9 ⟨rfl, hb⟩; have HB9 := Lib.hid (below_new HBB.out hb); clear hb)
          go_ret
          exact ⟨rfl, HB9.out⟩
        have f3 : (E3 == 0) = b3' := by
          cases b3' with
          | true => rw [K3.out (of_decide_eq_true hb3.symm)]; rfl
          | false => simpa using fun e => hA ⟨rfl, e⟩
        clear hA hb3
        simp only [Act.put]
        go_cut [124] (fun s124 wx => s124 = .bool false ∧ Hid (OtH w g10 g H X R (some pd) ls P wx ∧ Below w6.heap.size w6 wx))
        case first =>
          cases b3' with
          | true =>
            have N3 : Hid (∀ W, (neqAt (.agg H) (.agg Y)).run Tryd.prog W = .ok (.bool false) W) := T3n
            refine wp_region_fk (Below w6.heap.size w6) (.get 0 (.get 1 (.get 2 (.get 3 (.get 4 (.get 5 (.get 6 (.get 7 (.get 8 (.get 9 (.get 10 (.get 11 (.get 12 (.get 13 (.get 14 .done))))))))))))))) (by kernel_rfl) rfl (by kernel_rfl) (by kernel_rfl) (by intro c a d v w h; cases d <;> exact h) (Below.refl w6.heap.size w6).drew (fun Q' hQ => ?_)
            have HS := Lib.hid (Below.refl w6.heap.size w6).drew
            have HQ := Lib.hid hQ
            clear hQ
            refine wpFk_get rfl (by rfl) (fun K hK => ?_)
            refine ⟨_, fun w' hS' => get_load rfl rfl ((HOt.out.next hS').h.read zH.out), ?_⟩
            try go_simp
            refine hK _ ?_
            clear hK K
            refine wpFk_get rfl (by rfl) (fun K hK => ?_)
            refine ⟨?_, fun w' hS' => ?_, ?_⟩
            rotate_left
            · go_simp
              try (with_reducible rfl)
            try go_simp
            refine hK _ ?_
            clear hK K
            refine wpFk_get rfl (by rfl) (fun K hK => ?_)
            refine ⟨?_, fun w' hS' => ?_, ?_⟩
            rotate_left
            · go_simp
              try (with_reducible rfl)
            try go_simp
            refine hK _ ?_
            clear hK K
            refine wpFk_get rfl (by rfl) (fun K hK => ?_)
            refine ⟨?_, fun w' hS' => ?_, ?_⟩
            rotate_left
            · go_simp
              try (with_reducible rfl)
            try go_simp
            refine hK _ ?_
            clear hK K
            refine wpFk_get rfl (by rfl) (fun K hK => ?_)
            refine ⟨_, fun w' hS' => get_load rfl rfl (RY.out _ hS'), ?_⟩
            try go_simp
            refine hK _ ?_
            clear hK K
            refine wpFk_get rfl (by rfl) (fun K hK => ?_)
            refine ⟨_, fun w' hS' => get_neqH rfl rfl rfl (N3.out _), ?_⟩
            try go_simp
            refine hK _ ?_
            clear hK K
            refine wpFk_get rfl (by rfl) (fun K hK => ?_)
            refine ⟨?_, fun w' hS' => ?_, ?_⟩
            rotate_left
            · go_simp
              try (with_reducible rfl)
            try go_simp
            refine hK _ ?_
            clear hK K
            refine wpFk_skip rfl (by rfl) (fun K hK => ?_)
            try go_simp
            refine hK _ ?_
            clear hK K
            refine wpFk_skip rfl (by rfl) (fun K hK => ?_)
            try go_simp
            refine hK _ ?_
            clear hK K
            refine wpFk_skip rfl (by rfl) (fun K hK => ?_)
            try go_simp
            refine hK _ ?_
            clear hK K
            refine wpFk_skip rfl (by rfl) (fun K hK => ?_)
            try go_simp
            refine hK _ ?_
            clear hK K
            refine wpFk_skip rfl (by rfl) (fun K hK => ?_)
            try go_simp
            refine hK _ ?_
            clear hK K
            refine wpFk_skip rfl (by rfl) (fun K hK => ?_)
            try go_simp
            refine hK _ ?_
            clear hK K
            refine wpFk_skip rfl (by rfl) (fun K hK => ?_)
            try go_simp
            refine hK _ ?_
            clear hK K
            refine wpFk_get rfl (by rfl) (fun K hK => ?_)
            refine ⟨?_, fun w' hS' => ?_, ?_⟩
            rotate_left
            · go_simp
              try (with_reducible rfl)
            try go_simp
            refine hK _ ?_
            clear hK K
            refine wpFk_done ?_
            refine HQ.out _ _ ?_
            go_wp2
            go_meet
            case rel => exact ⟨rfl, Lib.hid ⟨HOt.out.next HS.out, HS.out⟩⟩
          | false =>
            have N3 : Hid (∀ W, (neqAt (.agg H) (.agg Y)).run Tryd.prog W = .ok (.bool true) W) := T3n
            refine wp_region_fk (Below w6.heap.size w6) (.get 0 (.get 1 (.get 2 (.get 3 (.get 4 (.get 5 (.get 6 (.get 7 (.get 8 (.get 9 (.get 10 (.get 11 (.call 12 (.get 13 (.get 14 .done))))))))))))))) (by kernel_rfl) rfl (by kernel_rfl) (by kernel_rfl) (by intro c a d v w h; cases d <;> exact h) (Below.refl w6.heap.size w6).drew (fun Q' hQ => ?_)
            have HS := Lib.hid (Below.refl w6.heap.size w6).drew
            have HQ := Lib.hid hQ
            clear hQ
            refine wpFk_get rfl (by rfl) (fun K hK => ?_)
            refine ⟨_, fun w' hS' => get_load rfl rfl ((HOt.out.next hS').h.read zH.out), ?_⟩
            try go_simp
            refine hK _ ?_
            clear hK K
            refine wpFk_get rfl (by rfl) (fun K hK => ?_)
            refine ⟨?_, fun w' hS' => ?_, ?_⟩
            rotate_left
            · go_simp
              try (with_reducible rfl)
            try go_simp
            refine hK _ ?_
            clear hK K
            refine wpFk_get rfl (by rfl) (fun K hK => ?_)
            refine ⟨?_, fun w' hS' => ?_, ?_⟩
            rotate_left
            · go_simp
              try (with_reducible rfl)
            try go_simp
            refine hK _ ?_
            clear hK K
            refine wpFk_get rfl (by rfl) (fun K hK => ?_)
            refine ⟨?_, fun w' hS' => ?_, ?_⟩
            rotate_left
            · go_simp
              try (with_reducible rfl)
            try go_simp
            refine hK _ ?_
            clear hK K
            refine wpFk_get rfl (by rfl) (fun K hK => ?_)
            refine ⟨_, fun w' hS' => get_load rfl rfl (RY.out _ hS'), ?_⟩
            try go_simp
            refine hK _ ?_
            clear hK K
            refine wpFk_get rfl (by rfl) (fun K hK => ?_)
            refine ⟨_, fun w' hS' => get_neqH rfl rfl rfl (N3.out _), ?_⟩
            try go_simp
            refine hK _ ?_
            clear hK K
            refine wpFk_get rfl (by rfl) (fun K hK => ?_)
            refine ⟨?_, fun w' hS' => ?_, ?_⟩
            rotate_left
            · go_simp
              try (with_reducible rfl)
            try go_simp
            refine hK _ ?_
            clear hK K
            refine wpFk_get rfl (by rfl) (fun K hK => ?_)
            refine ⟨?_, fun w' hS' => ?_, ?_⟩
            rotate_left
            · go_simp
              try (with_reducible rfl)
            try go_simp
            refine hK _ ?_
            clear hK K
            refine wpFk_get rfl (by rfl) (fun K hK => ?_)
            refine ⟨?_, fun w' hS' => ?_, ?_⟩
            rotate_left
            · go_simp
              try (with_reducible rfl)
            try go_simp
            refine hK _ ?_
            clear hK K
            refine wpFk_get rfl (by rfl) (fun K hK => ?_)
            refine ⟨_, fun w' hS' => get_load rfl rfl ((HOt.out.next hS').o.read zX.out), ?_⟩
            try go_simp
            refine hK _ ?_
            clear hK K
            refine wpFk_get rfl (by rfl) (fun K hK => ?_)
            refine ⟨_, fun w' hS' => get_load rfl rfl ((HOt.out.next hS').rt.read zR.out), ?_⟩
            try go_simp
            refine hK _ ?_
            clear hK K
            refine wpFk_get rfl (by rfl) (fun K hK => ?_)
            refine ⟨?_, fun w' hS' => ?_, ?_⟩
            rotate_left
            · go_simp
              try (with_reducible rfl)
            try go_simp
            refine hK _ ?_
            clear hK K
            refine wpFk_call rfl (by rfl) (fun K hK => ?_)
            go_simp
            go_at_call 12
            refine (C3r.out _ HS.out).mono ?_
            rintro e w2x ⟨rfl, hb⟩
            replace HS := Lib.hid (below_new HS.out hb)
            clear hb
            refine hK _ _ HS.out ?_
            clear hK K
            refine wpFk_get rfl (by rfl) (fun K hK => ?_)
            refine ⟨?_, fun w' hS' => ?_, ?_⟩
            rotate_left
            · go_simp
              try (with_reducible rfl)
            try go_simp
            refine hK _ ?_
            clear hK K
            refine wpFk_get rfl (by rfl) (fun K hK => ?_)
            refine ⟨?_, fun w' hS' => ?_, ?_⟩
            rotate_left
            · go_simp
              try (with_reducible rfl)
            try go_simp
            refine hK _ ?_
            clear hK K
            refine wpFk_done ?_
            refine HQ.out _ _ ?_
            go_wp2
            go_meet
            case rel => exact ⟨rfl, Lib.hid ⟨HOt.out.next HS.out, HS.out⟩⟩
        case rest =>
          obtain ⟨rfl, hcut⟩ := hcut
          have HB7 := Lib.hid hcut.out.2
          have HOt := Lib.hid hcut.out.1
          clear hcut
          go_upto_region 17 with fail
          refine wp_region_fk (Below wc.heap.size wc) (.get 0 (.get 1 (.get 2 (.get 3 (.get 4 (.get 7 (.get 8 (.get 9 (.get 10 (.get 11 (.get 12 (.call 5 (.get 6 (.get 13 .done)))))))))))))) (by kernel_rfl) rfl (by kernel_rfl) (by kernel_rfl) (by intro c a d v w h; cases d <;> exact h) (Below.refl wc.heap.size wc).drew (fun Q' hQ => ?_)
          have HS := Lib.hid (Below.refl wc.heap.size wc).drew
          have HQ := Lib.hid hQ
          clear hQ
          refine wpFk_get rfl (by rfl) (fun K hK => ?_)
          refine ⟨?_, fun w' hS' => ?_, ?_⟩
          rotate_left
          · go_simp
            try (with_reducible rfl)
          try go_simp
          refine hK _ ?_
          clear hK K
          refine wpFk_get rfl (by rfl) (fun K hK => ?_)
          refine ⟨?_, fun w' hS' => ?_, ?_⟩
          rotate_left
          · go_simp
            try (with_reducible rfl)
          try go_simp
          refine hK _ ?_
          clear hK K
          refine wpFk_get rfl (by rfl) (fun K hK => ?_)
          refine ⟨_, fun w' hS' => get_load rfl rfl ((HOt.out.next hS').o.read zX.out), ?_⟩
          try go_simp
          refine hK _ ?_
          clear hK K
          refine wpFk_get rfl (by rfl) (fun K hK => ?_)
          refine ⟨_, fun w' hS' => get_load rfl rfl ((HOt.out.next hS').rt.read zR.out), ?_⟩
          try go_simp
          refine hK _ ?_
          clear hK K
          refine wpFk_get rfl (by rfl) (fun K hK => ?_)
          refine ⟨?_, fun w' hS' => ?_, ?_⟩
          rotate_left
          · go_simp
            try (with_reducible rfl)
          try go_simp
          refine hK _ ?_
          clear hK K
          refine wpFk_get rfl (by rfl) (fun K hK => ?_)
          refine ⟨_, fun w' hS' => get_load rfl rfl ((HOt.out.next hS').h.read zH.out), ?_⟩
          try go_simp
          refine hK _ ?_
          clear hK K
          refine wpFk_get rfl (by rfl) (fun K hK => ?_)
          refine ⟨?_, fun w' hS' => ?_, ?_⟩
          rotate_left
          · go_simp
            try (with_reducible rfl)
          try go_simp
          refine hK _ ?_
          clear hK K
          refine wpFk_get rfl (by rfl) (fun K hK => ?_)
          refine ⟨?_, fun w' hS' => ?_, ?_⟩
          rotate_left
          · go_simp
            try (with_reducible rfl)
          try go_simp
          refine hK _ ?_
          clear hK K
          refine wpFk_get rfl (by rfl) (fun K hK => ?_)
          refine ⟨?_, fun w' hS' => ?_, ?_⟩
          rotate_left
          · go_simp
            try (with_reducible rfl)
          try go_simp
          refine hK _ ?_
          clear hK K
          refine wpFk_get rfl (by rfl) (fun K hK => ?_)
          refine ⟨_, fun w' hS' => get_load rfl rfl (RY.out _ (HB7.out.trans (hS'.mono HB7.out.size))), ?_⟩
          try go_simp
          refine hK _ ?_
          clear hK K
          refine wpFk_get rfl (by rfl) (fun K hK => ?_)
          refine ⟨_, fun w' hS' => get_eqH rfl rfl rfl (T3.out _), ?_⟩
          try go_simp
          refine hK _ ?_
          clear hK K
          refine wpFk_call rfl (by rfl) (fun K hK => ?_)
          go_simp
          go_at_call 11
          refine (C3p.out _ (HB7.out.trans (HS.out.mono HB7.out.size))).mono ?_
          rintro e w2x ⟨rfl, hb⟩
          replace HS := Lib.hid (below_new HS.out hb)
          clear hb
          refine hK _ _ HS.out ?_
          clear hK K
          refine wpFk_get rfl (by rfl) (fun K hK => ?_)
          refine ⟨?_, fun w' hS' => ?_, ?_⟩
          rotate_left
          · go_simp
            try (with_reducible rfl)
          try go_simp
          refine hK _ ?_
          clear hK K
          refine wpFk_get rfl (by rfl) (fun K hK => ?_)
          refine ⟨?_, fun w' hS' => ?_, ?_⟩
          rotate_left
          · go_simp
            try (with_reducible rfl)
          try go_simp
          refine hK _ ?_
          clear hK K
          refine wpFk_done ?_
          refine HQ.out _ _ ?_
          go_wp2
          go_roundw
          case rel => exact ⟨k + 1, by go_num, by omega, Lib.hid (HOt.out.next HS.out)⟩
          case measure => simp [intOf]; omega
      · have hjl : j < (ls.take a).length := by rw [lta.out]; exact HJA.out
        have hja : j < a := HJA.out
        have d6 : (j : Int) < (a : Int) := by omega
        have d61 : (0 : Int) ≤ (j : Int) := by omega
        have hLa := Lib.hid (hashes_take HHs.out a)
        have hasm : Hid (a ≤ 8192) := Lib.hid (by omega)
        have HO2 : Hid (HL wr wr.heap.size (some ⟨g, 0, none⟩) (ls.take a)) := Lib.hid (HL.take HO.out.ls a)
        go_upto_region 20 with (at_builtin; refine wpList_appendC rfl (.const (.slice none 0 0)) (.tmp 142) rfl wr.heap.size (ls.take a) rfl (some ⟨g, 0, none⟩) a c rfl lta.out.symm hLa.out HO2.out hasm.out (Nat.le_refl _) ?_; intro v1 w5 ho hg; have HOwn := Lib.hid ho; have HB5 : Hid (Below wr.heap.size wr w5) := Lib.hid ((Below.refl _ _).grown hg (Nat.le_refl _) (by intro k hk; simp at hk)); clear ho hg)
        obtain ⟨g3, c3, rfl, hg3⟩ : ∃ g3 c3, v1 = .slice (some ⟨g3, 0, none⟩) a c3 ∧ Hid ((a ≤ c3 ∧ c3 ≤ maxLen) ∧ wr.heap.size ≤ g3 ∧ w5.there g3 (j * 32) 32 ∧ HW w5 (some ⟨g3, 0, none⟩) (ls.take a)) := by
          obtain ⟨A, c3, e⟩ := own_form HOwn.out
          have hs := own_some (by have := HOwn.out; rw [e] at this; exact this)
          rcases hs.2.2 with ⟨_, h0⟩ | ⟨g3, rfl, h1, h2⟩
          · omega
          · have ho := HOwn.out
            rw [e] at ho
            exact ⟨g3, c3, e, Lib.hid ⟨⟨hs.1, by have := hs.2.1; unfold maxLen; omega⟩, h1, own_room ho j hja, own_HL (hs := ls.take a) (by rw [lta.out]; exact ho) hLa.out⟩⟩
        have hc3 : a ≤ c3 := hg3.out.1.1
        have HO5 := Lib.hid (HO.out.next HB5.out)
        have ht : Hid (w5.drew.there g3 (j * 32) H.size) := Lib.hid (by rw [zH.out]; exact hg3.out.2.2.1)
        have h6 := sizeH H.size zH.out
        obtain ⟨qs, hqs⟩ : ∃ qs, Hid (qs = (ls.take a).set j h) := ⟨_, Lib.hid rfl⟩
        have hQs : Hid (hashes qs ∧ qs.length = a) := Lib.hid (by rw [hqs.out]; exact ⟨setL_hashes hLa.out j h HH32.out, by rw [List.length_set, lta.out]⟩)
        have HPs : Hid (HL (w5.drew.setCells g3 (j * 32) H.toList) w5.heap.size (some ⟨g3, 0, none⟩) qs) := Lib.hid (by rw [hH.out, hqs.out]; exact HL.set (wr := w5.drew) hg3.out.2.2.2 j hjl h HH32.out.1 hg3.out.2.2.1)
        have HBs : Hid (Below wr.heap.size w5.drew (w5.drew.setCells g3 (j * 32) H.toList)) := Lib.hid (below_setCells_w hg3.out.2.1 _ _ _)
        have HZs : Hid ((w5.drew.setCells g3 (j * 32) H.toList).heap.size = w5.heap.size) := Lib.hid (by rw [size_setCells]; rfl)
        have HON : Hid (OtH w g10 g H X R Ap ls P (w5.drew.setCells g3 (j * 32) H.toList)) := Lib.hid (HO.out.next (HB5.out.drew.trans HBs.out))
        have HOD : Hid (OtH w g10 g H X R Ap ls P w5.drew) := Lib.hid (HO.out.next HB5.out.drew)
        refine wp_region_fk (OtH w g10 g H X R Ap ls P) (.get 0 (.get 1 (.get 2 (.get 3 (.get 4 (.get 5 (.get 6 (.get 7 (.call 8 .done))))))))) (by kernel_rfl) rfl (by kernel_rfl) (by kernel_rfl) (by intro c a d v w h; cases d <;> exact h) HOD.out (fun Q' hQ => ?_)
        have HS := HOD
        have HQ := Lib.hid hQ
        clear hQ
        refine wpFk_get rfl (by rfl) (fun K hK => ?_)
        refine ⟨?_, fun w' hS' => ?_, ?_⟩
        rotate_left
        · go_simp
          try (with_reducible rfl)
        try go_simp
        refine hK _ ?_
        clear hK K
        refine wpFk_get rfl (by rfl) (fun K hK => ?_)
        refine ⟨?_, fun w' hS' => ?_, ?_⟩
        rotate_left
        · go_simp
          try (with_reducible rfl)
        try go_simp
        refine hK _ ?_
        clear hK K
        refine wpFk_get rfl (by rfl) (fun K hK => ?_)
        refine ⟨?_, fun w' hS' => ?_, ?_⟩
        rotate_left
        · go_simp
          try (with_reducible rfl)
        try go_simp
        refine hK _ ?_
        clear hK K
        refine wpFk_get rfl (by rfl) (fun K hK => ?_)
        refine ⟨?_, fun w' hS' => ?_, ?_⟩
        rotate_left
        · go_simp
          try (with_reducible rfl)
        try go_simp
        refine hK _ ?_
        clear hK K
        refine wpFk_get rfl (by rfl) (fun K hK => ?_)
        refine ⟨?_, fun w' hS' => ?_, ?_⟩
        rotate_left
        · go_simp
          try (with_reducible rfl)
        try go_simp
        refine hK _ ?_
        clear hK K
        refine wpFk_get rfl (by rfl) (fun K hK => ?_)
        refine ⟨?_, fun w' hS' => ?_, ?_⟩
        rotate_left
        · go_simp
          try (with_reducible rfl)
        try go_simp
        refine hK _ ?_
        clear hK K
        refine wpFk_get rfl (by rfl) (fun K hK => ?_)
        refine ⟨_, fun w' hS' => get_load rfl rfl (hS'.h.read zH.out), ?_⟩
        try go_simp
        refine hK _ ?_
        clear hK K
        refine wpFk_get rfl (by rfl) (fun K hK => ?_)
        refine ⟨?_, fun w' hS' => ?_, ?_⟩
        rotate_left
        · go_simp
          try (with_reducible rfl)
        try go_simp
        refine hK _ ?_
        clear hK K
        refine wpFk_call rfl (by rfl) (fun K hK => ?_)
        refine wp_store_mid 30 _ _ rfl g3 (j * 32) H (by go_simp; try rw [add_flat]) rfl ht.out h6 oH.out ?_
        try go_simp
        replace HS := HON
        refine hK _ _ HS.out ?_
        clear hK K
        refine wpFk_done ?_
        refine HQ.out _ _ ?_
        go_upto_region 21 with fail
        refine world_gen (fun W => OtH w g10 g H X R Ap ls P W ∧ HW W (some ⟨g3, 0, none⟩) qs) ⟨HON.out, by unfold HW; rw [HZs.out]; exact HPs.out⟩ (fun w6 H6 => ?_)
        clear ht h6 HPs HBs HZs HO5 HOwn HB5 HO HO2 HON HOD HS HQ hjl
        have HQs := Lib.hid H6.2
        have HO6 := Lib.hid H6.1
        have hG3 := Lib.hid hg3.out.1
        clear hg3 H6
        obtain ⟨x', hx'⟩ : ∃ x', Hid (x' = rootL qs) := ⟨_, Lib.hid rfl⟩
        obtain ⟨XX, hXX⟩ : ∃ XX, Hid (XX = nums .u8 x') := ⟨_, Lib.hid rfl⟩
        have HXX32 : Hid (x'.length = 32 ∧ bytes x') := Lib.hid (by rw [hx'.out]; exact rootL_is _ hQs.out.1)
        have zXX : Hid (XX.size = 32) := Lib.hid (by rw [hXX.out, nums_size]; exact HXX32.out.1)
        have oXX : Hid (XX.all (·.oneCell') = true) := Lib.hid (by rw [hXX.out]; exact nums_one _ _)
        have RW : Hid (Calls Tryd.prog 14 #[.slice (some ⟨g3, 0, none⟩) a c3] w6 fun ev w' => ev = .returned (.agg XX) ∧ Below w6.heap.size w6 w') := Lib.hid (by
          have := root_any qs hQs.out.1 (some ⟨g3, 0, none⟩) c3 w6 HQs.out HO6.out.tab (by rw [hQs.out.2]; omega)
          rwa [hQs.out.2, ← hx'.out, ← hXX.out] at this)
        go_upto_region 22 with (go_at_call 14; (with_reducible refine RW.out.mono ?_); rintro e w7 ⟨rfl, hb⟩; obtain ⟨w8, s8, hr8, hb8, hz8⟩ := made_write w7 XX zXX.out oXX.out; have H8 : Hid (OtH w g10 g H X R Ap ls P w8 ∧ Row w8 w7.heap.size 30 XX) := Lib.hid ⟨(HO6.out.next hb).next hb8, hr8⟩; clear hr8 hb8 hz8 hb)
        clear s8 RW HO6 HQs
        obtain ⟨g17, hg17⟩ : ∃ g17, w7.heap.size = g17 := ⟨_, rfl⟩
        rw [hg17] at H8 ⊢
        clear hg17
        have HOt := Lib.hid H8.out.1
        have HXr := Lib.hid H8.out.2
        clear H8
        obtain ⟨E4, hE4⟩ : ∃ E, Hid (E = checkP (a : Int) (m : Int) x' rt P) := ⟨_, Lib.hid rfl⟩
        have C4p : Hid (∀ W, OtH w g10 g H X R Ap ls P W → Calls Tryd.prog 11 #[.int .i64 (a : Int), .int .i64 (m : Int), .agg XX, .agg R, .slice Ap q cp] W fun e w' => e = .returned (.int .i64 E4) ∧ Below W.heap.size W w') := Lib.hid fun W hW => by
          rw [hE4.out]; exact CP.out W Ap cp x' rt P XX R hW.path hW.tab hPh.out hq.out.symm HCP.out hXX.out hR.out HXX32.out HR32.out
        have C4r : Hid (∀ W, OtH w g10 g H X R Ap ls P W → Calls Tryd.prog 12 #[.int .i64 (a : Int), .int .i64 (m : Int), .agg XX, .agg R, .slice Ap q cp] W fun e w' => e = .returned (.int .i64 E4) ∧ Below W.heap.size W w') := Lib.hid fun W hW => by
          rw [hE4.out]; exact CR.out W Ap cp x' rt P XX R hW.path hPh.out hq.out.symm HCP.out hXX.out hR.out HXX32.out HR32.out
        have K4 : Hid (x' = x → E4 = 0) := Lib.hid fun e => by rw [hE4.out, e]; exact KF.out
        obtain ⟨b5', hb5⟩ : ∃ b : Bool, b = decide (x' = x) := ⟨_, rfl⟩
        obtain ⟨T5, T5n⟩ := eq_three x' x XX X hXX hX HXX32.out HX32.out b5' hb5
        have T5 := Lib.hid T5
        have T5n := Lib.hid T5n
        by_cases hA : b5' = false ∧ E4 = 0
        · obtain ⟨rfl, hA2⟩ := hA
          subst hA2
          have N5 : ∀ W, (neqAt (.agg XX) (.agg X)).run Tryd.prog W = .ok (.bool true) W := T5n.out
          have r2 := HOt.out.o.read zX.out
          have r3 := HOt.out.rt.read zR.out
          have r4 := HXr.out.read zXX.out
          clear hb5
          go_wp2_with (first
            | (go_at_call 12; (with_reducible refine (C4r.out _ HOt.out).mono ?_); rintro e w10 ⟨rfl, hb⟩; have HTB := Lib.hid (HOt.out.next hb).tab; have HBB := Lib.hid (HOt.out.next hb).below; clear hb r2 r3 r4)
            | (go_at_call 7; (with_reducible refine (proved_any _ HTB.out).mono ?_); rintro e w9 ⟨rfl, hb⟩; have HB9 := Lib.hid (below_new HBB.out hb); clear hb))
          go_ret
          exact ⟨rfl, HB9.out⟩
        have f5 : (E4 == 0) = b5' := by
          cases b5' with
          | true => rw [K4.out (of_decide_eq_true hb5.symm)]; rfl
          | false => simpa using fun e => hA ⟨rfl, e⟩
        clear hA hb5
        try simp only [Act.put]
        go_cut [165] (fun s165 wx => s165 = .bool false ∧ Hid (OtH w g10 g H X R Ap ls P wx ∧ Row wx g17 30 XX))
        case first =>
          have r2 := HOt.out.o.read zX.out
          have r3 := HOt.out.rt.read zR.out
          have r4 := HXr.out.read zXX.out
          cases b5' with
          | true =>
            have N5 : ∀ W, (neqAt (.agg XX) (.agg X)).run Tryd.prog W = .ok (.bool false) W := T5n.out
            go_wp2
            go_meet
            case rel => exact ⟨rfl, Lib.hid ⟨HOt.out, HXr.out⟩⟩
          | false =>
            have N5 : ∀ W, (neqAt (.agg XX) (.agg X)).run Tryd.prog W = .ok (.bool true) W := T5n.out
            go_wp2_with (go_at_call 12; (with_reducible refine (C4r.out _ HOt.out).mono ?_); rintro e w10 ⟨rfl, hb⟩; have HO10 := Lib.hid (HOt.out.next hb); have HX10 := Lib.hid (HXr.out.next hb); clear hb r2 r3 r4)
            go_meet
            case rel => exact ⟨rfl, Lib.hid ⟨HO10.out, HX10.out⟩⟩
        case rest =>
          obtain ⟨rfl, hcut⟩ := hcut
          have HOt := Lib.hid hcut.out.1
          have HXr := Lib.hid hcut.out.2
          clear hcut
          go_upto_region 24 with fail
          refine wp_region_fk (Below wc.heap.size wc) (.get 0 (.get 1 (.get 2 (.get 3 (.get 4 (.get 7 (.get 8 (.get 9 (.call 5 (.get 6 (.get 10 (.get 11 (.call 12 (.get 13 (.get 14 .done))))))))))))))) (by kernel_rfl) rfl (by kernel_rfl) (by kernel_rfl) (by intro c a d v w h; cases d <;> exact h) (Below.refl wc.heap.size wc).drew (fun Q' hQ => ?_)
          have HS := Lib.hid (Below.refl wc.heap.size wc).drew
          have HQ := Lib.hid hQ
          clear hQ
          refine wpFk_get rfl (by rfl) (fun K hK => ?_)
          refine ⟨?_, fun w' hS' => ?_, ?_⟩
          rotate_left
          · go_simp
            try (with_reducible rfl)
          try go_simp
          refine hK _ ?_
          clear hK K
          refine wpFk_get rfl (by rfl) (fun K hK => ?_)
          refine ⟨?_, fun w' hS' => ?_, ?_⟩
          rotate_left
          · go_simp
            try (with_reducible rfl)
          try go_simp
          refine hK _ ?_
          clear hK K
          refine wpFk_get rfl (by rfl) (fun K hK => ?_)
          refine ⟨_, fun w' hS' => get_load rfl rfl ((HXr.out.next hS').read zXX.out), ?_⟩
          try go_simp
          refine hK _ ?_
          clear hK K
          refine wpFk_get rfl (by rfl) (fun K hK => ?_)
          refine ⟨_, fun w' hS' => get_load rfl rfl ((HOt.out.next hS').rt.read zR.out), ?_⟩
          try go_simp
          refine hK _ ?_
          clear hK K
          refine wpFk_get rfl (by rfl) (fun K hK => ?_)
          refine ⟨?_, fun w' hS' => ?_, ?_⟩
          rotate_left
          · go_simp
            try (with_reducible rfl)
          try go_simp
          refine hK _ ?_
          clear hK K
          refine wpFk_get rfl (by rfl) (fun K hK => ?_)
          refine ⟨_, fun w' hS' => get_load rfl rfl ((HXr.out.next hS').read zXX.out), ?_⟩
          try go_simp
          refine hK _ ?_
          clear hK K
          refine wpFk_get rfl (by rfl) (fun K hK => ?_)
          refine ⟨_, fun w' hS' => get_load rfl rfl ((HOt.out.next hS').o.read zX.out), ?_⟩
          try go_simp
          refine hK _ ?_
          clear hK K
          refine wpFk_get rfl (by rfl) (fun K hK => ?_)
          refine ⟨_, fun w' hS' => get_eqH rfl rfl rfl (T5.out _), ?_⟩
          try go_simp
          refine hK _ ?_
          clear hK K
          refine wpFk_call rfl (by rfl) (fun K hK => ?_)
          go_simp
          go_at_call 11
          refine (C4p.out _ (HOt.out.next HS.out)).mono ?_
          rintro e w2x ⟨rfl, hb⟩
          replace HS := Lib.hid (below_new HS.out hb)
          clear hb
          refine hK _ _ HS.out ?_
          clear hK K
          refine wpFk_get rfl (by rfl) (fun K hK => ?_)
          refine ⟨?_, fun w' hS' => ?_, ?_⟩
          rotate_left
          · go_simp
            try (with_reducible rfl)
          try go_simp
          refine hK _ ?_
          clear hK K
          refine wpFk_get rfl (by rfl) (fun K hK => ?_)
          refine ⟨?_, fun w' hS' => ?_, ?_⟩
          rotate_left
          · go_simp
            try (with_reducible rfl)
          try go_simp
          refine hK _ ?_
          clear hK K
          refine wpFk_get rfl (by rfl) (fun K hK => ?_)
          refine ⟨?_, fun w' hS' => ?_, ?_⟩
          rotate_left
          · go_simp
            try (with_reducible rfl)
          try go_simp
          refine hK _ ?_
          clear hK K
          refine wpFk_call rfl (by rfl) (fun K hK => ?_)
          go_simp
          go_at_call 7
          refine (proved_any _ (HOt.out.next HS.out).tab).mono ?_
          rintro e w2x ⟨rfl, hb⟩
          replace HS := Lib.hid (below_new HS.out hb)
          clear hb
          refine hK _ _ HS.out ?_
          clear hK K
          refine wpFk_get rfl (by rfl) (fun K hK => ?_)
          refine ⟨?_, fun w' hS' => ?_, ?_⟩
          rotate_left
          · go_simp
            try (with_reducible rfl)
          try go_simp
          refine hK _ ?_
          clear hK K
          refine wpFk_get rfl (by rfl) (fun K hK => ?_)
          refine ⟨?_, fun w' hS' => ?_, ?_⟩
          rotate_left
          · go_simp
            try (with_reducible rfl)
          try go_simp
          refine hK _ ?_
          clear hK K
          refine wpFk_done ?_
          refine HQ.out _ _ ?_
          go_wp2
          go_ret
          exact ⟨rfl, (HOt.out.next HS.out).below⟩
end Go.Proofs.YtkjgkeigfebcmaaDoor
