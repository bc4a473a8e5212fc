/-
  The walk of the statement PathsOther: it returns true; what it makes is new memory, nothing that was there changes. Condition: the two tables as they were laid.
-/
import Derived.Test.YtfakimbneenfdaaDoorPathFound
import Derived.Test.YtfakimbneenfdaaDoorPathStore
import Derived.Test.YtfakimbneenfdaaDoorPathRefCheck
namespace Go.Proofs.YtfakimbneenfdaaDoor
open Go.RowKit Go.Great
set_option linter.unusedVariables false
set_option maxRecDepth 100000

/-- What the statement holds: the hash, the root, the leaves, the path. -/
structure OtH (w : World) (g10 g : Nat) (H R : Array Value) (Ap : Option Addr) (ls P : List (List Int)) (W : World) : Prop where
  h : Row W w.heap.size 31 H
  rt : Row W g10 31 R
  ls : HW W (some ⟨g, 0, none⟩) ls
  path : HW W Ap P
  tab : Tab W
  below : Below w.heap.size w W
theorem OtH.next {w W W1 : World} {g10 g : Nat} {H R : Array Value} {Ap : Option Addr} {ls P : List (List Int)} (h : OtH w g10 g H R Ap ls P W) (hb : Below W.heap.size W W1) : OtH w g10 g H R Ap ls P W1 :=
  ⟨h.h.next hb, h.rt.next hb, h.ls.next hb, h.path.next hb, h.tab.next hb, below_new h.below hb⟩
/-- Whether two hashes are the same, three ways. -/
theorem eq_three (x y : List Int) (X Y : Array Value) (hX : Hid (X = nums .u8 x)) (hY : Hid (Y = nums .u8 y)) (hx : x.length = 32 ∧ bytes x) (hy : y.length = 32 ∧ bytes y) (b : Bool) (hb : b = decide (x = y)) :
    (∀ W, (eqAt (.agg X) (.agg Y)).run Tryd.prog W = .ok (.bool b) W) ∧ (∀ W, (neqAt (.agg X) (.agg Y)).run Tryd.prog W = .ok (.bool (!b)) W) := by
  rw [hX.out, hY.out, hb]
  exact ⟨fun W => eqAt_hash x y hx.1 hy.1 hx.2 hy.2 W, fun W => neqAt_hash x y hx.1 hy.1 hx.2 hy.2 W⟩
attribute [local go_sem ↓ high] read_at write_at eq_at neq_at
set_option maxHeartbeats 80000000 in
theorem otherlaw_any (no which : Int) (hno : 0 ≤ no ∧ no ≤ 255) (hwh : 0 ≤ which ∧ which ≤ 255) (h : List Int) (h32 : h.length = 32 ∧ bytes h) (w : World) (hT : Tab w) :
    Calls Tryd.prog 10 #[.int .u8 no, .int .u8 which, .agg (nums .u8 h)] w fun e w' => e = .returned (.bool true) ∧ Below w.heap.size w w' := by
  obtain ⟨N, hN⟩ : ∃ N : Nat, Hid (no.tmod 100 = (N : Int) ∧ N < 100) := ⟨(no % 100).toNat, Lib.hid ⟨by rw [Int.tmod_eq_emod_of_nonneg (by omega)]; omega, by omega⟩⟩
  obtain ⟨m, hm⟩ : ∃ m : Nat, Hid (m = 1 + N) := ⟨_, Lib.hid rfl⟩
  have hN1 := hN.out.2
  have e1 : no.tmod 100 = (N : Int) := hN.out.1
  have e2 : 1 + (N : Int) = (m : Int) := by rw [hm.out]; omega
  have hm1 : 1 ≤ m := by rw [hm.out]; omega
  have hm2 : m ≤ 100 := by rw [hm.out]; omega
  obtain ⟨i, hi⟩ : ∃ i : Nat, Hid (which.tmod (m : Int) = (i : Int) ∧ i < m) := ⟨(which % (m : Int)).toNat, Lib.hid (by
    have h1 := Int.emod_nonneg which (b := (m : Int)) (by omega)
    have h2 := Int.emod_lt_of_pos which (b := (m : Int)) (by omega)
    exact ⟨by rw [Int.tmod_eq_emod_of_nonneg (by omega)]; omega, by omega⟩)⟩
  have e3 : which.tmod (m : Int) = (i : Int) := hi.out.1
  have him : i < m := hi.out.2
  have HIM := Lib.hid him
  have d4 : (i : Int) < (m : Int) := by omega
  have z1 : ¬ ((m : Int) = 0) := by omega
  have z2 : ((m : Int) == 0) = false := by simp; omega
  have hwm : IntKind.i64.wrap (m : Int) = (m : Int) := by rw [IntKind.wrap_i64]; omega
  have hwi : IntKind.i64.wrap (i : Int) = (i : Int) := by rw [IntKind.wrap_i64]; omega
  have hwn : IntKind.i64.wrap no = no := by rw [IntKind.wrap_i64]; omega
  have hww : IntKind.i64.wrap which = which := by rw [IntKind.wrap_i64]; omega
  obtain ⟨ls, hls⟩ : ∃ ls, Hid (ls = someM which m) := ⟨_, Lib.hid rfl⟩
  have hh : hashes ls := by rw [hls.out]; exact someM_hashes which (by omega) m (by omega)
  have ll : Hid (ls.length = m) := Lib.hid (by rw [hls.out, someM_length])
  have hil : i < ls.length := by rw [ll.out]; exact him
  obtain ⟨x, hx⟩ : ∃ x, Hid (x = ls.getD i []) := ⟨_, Lib.hid rfl⟩
  obtain ⟨rt, hrt⟩ : ∃ r, Hid (r = rootL ls) := ⟨_, Lib.hid rfl⟩
  have hx32 : x.length = 32 ∧ bytes x := by rw [hx.out]; exact hashes_at hh i hil
  have hrt32 : rt.length = 32 ∧ bytes rt := by rw [hrt.out]; exact rootL_is _ hh
  obtain ⟨H, hH⟩ : ∃ H, Hid (H = nums .u8 h) := ⟨_, Lib.hid rfl⟩
  obtain ⟨R, hR⟩ : ∃ R, Hid (R = nums .u8 rt) := ⟨_, Lib.hid rfl⟩
  obtain ⟨X, hX⟩ : ∃ X, Hid (X = nums .u8 x) := ⟨_, Lib.hid rfl⟩
  have zH : Hid (H.size = 32) := Lib.hid (by rw [hH.out, nums_size]; exact h32.1)
  have oH : Hid (H.all (·.oneCell') = true) := Lib.hid (by rw [hH.out]; exact nums_one _ _)
  have zR : Hid (R.size = 32) := Lib.hid (by rw [hR.out, nums_size]; exact hrt32.1)
  have oR : Hid (R.all (·.oneCell') = true) := Lib.hid (by rw [hR.out]; exact nums_one _ _)
  obtain ⟨P, hP⟩ : ∃ P, Hid (P = pathL ls i) := ⟨_, Lib.hid rfl⟩
  obtain ⟨q, hq⟩ : ∃ q, Hid (q = P.length) := ⟨_, Lib.hid rfl⟩
  have hPh : Hid (hashes P) := Lib.hid (by rw [hP.out]; exact pathL_hashes _ ls i rfl hh)
  have hq7 : q ≤ 7 := by rw [hq.out, hP.out, pathL_sides ls i hil, ll.out]; exact sides_length 7 i (m - 1) (by omega)
  have hwq : IntKind.i64.wrap (q : Int) = (q : Int) := by rw [IntKind.wrap_i64]; omega
  have KF : Hid (checkF x (i : Int) (m : Int) P rt = 0) := Lib.hid (by
    have := checkF_path (ls := ls) (i := i) hil (by rw [ll.out]; omega)
    rw [ll.out, ← hP.out, ← hx.out, ← hrt.out] at this; exact this)
  have S0 : Hid (∀ W, Calls Tryd.prog 30 #[.int .i64 (m : Int), .int .u8 which] W fun ev w' => (∃ g c, ev = .returned (.slice (some ⟨g, 0, none⟩) m c) ∧ (m ≤ c ∧ c ≤ maxLen) ∧ HW w' (some ⟨g, 0, none⟩) ls) ∧ Below W.heap.size W w') := Lib.hid fun W => by
    refine (someG_any m (by omega) which (by omega) W).mono ?_
    rintro ev w' ⟨⟨A, c, he, hc, hA, h0⟩, hb⟩
    rcases h0 with h0 | ⟨g, rfl⟩
    · omega
    · exact ⟨⟨g, c, he, hc, by rw [hls.out]; exact hA⟩, hb⟩
  have RR : Hid (∀ W g c, HW W (some ⟨g, 0, none⟩) ls → Tab W → Calls Tryd.prog 29 #[.slice (some ⟨g, 0, none⟩) m c] W fun ev w' => ev = .returned (.agg R) ∧ Below W.heap.size W w') := Lib.hid fun W g c h1 h2 => by
    have := root_any ls hh (some ⟨g, 0, none⟩) c W h1 h2 (by rw [ll.out]; omega)
    rwa [ll.out, ← hrt.out, ← hR.out] at this
  have PP : Hid (∀ W g c, HW W (some ⟨g, 0, none⟩) ls → Tab W → (m ≤ c ∧ c ≤ maxLen) → Calls Tryd.prog 32 #[.slice (some ⟨g, 0, none⟩) m c, .int .i64 (i : Int)] W fun e w' => ∃ A' c', e = .returned (.tuple #[.slice A' q c', .int .i64 0]) ∧ (q ≤ c' ∧ c' ≤ maxLen) ∧ HW w' A' P ∧ Below W.heap.size W w') := Lib.hid fun W g c h1 h2 h3 => by
    have := path_any ls hh (some ⟨g, 0, none⟩) c W h1 h2 (by rw [ll.out]; exact h3.1) h3.2 (i : Int)
    rw [pathF_ok hil, ← hP.out, ll.out] at this
    refine this.mono ?_
    rintro e w' ⟨A', c', he, h4, h5, h6, h7⟩
    exact ⟨A', c', by rw [hq.out]; exact he, ⟨by rw [hq.out]; exact h4, h5⟩, h6, h7⟩
  -- Check of whatever, the program's and the document's
  have CP : Hid (∀ W B d (j : Nat) (y r : List Int) (P' : List (List Int)) (Y Rr : Array Value), HW W B P' → Tab W → hashes P' → P'.length = q → j ≤ 100 → (q ≤ d ∧ d ≤ maxLen) → Y = nums .u8 y → Rr = nums .u8 r → (y.length = 32 ∧ bytes y) → (r.length = 32 ∧ bytes r) → Calls Tryd.prog 34 #[.agg Y, .int .i64 (j : Int), .int .i64 (m : Int), .slice B q d, .agg Rr] W fun e w' => e = .returned (.int .i64 (checkF y (j : Int) (m : Int) P' r)) ∧ Below W.heap.size W w') := Lib.hid fun W B d j y r P' Y Rr hB hTW hP' hl hj hd hY hRr hy hr => by
    have := check_any y r hy hr (j : Int) (m : Int) (by omega) (by omega) P' hP' B d W hB hTW (by rw [hl]; exact hd.1) (by have := hd.2; unfold maxLen at this; omega)
    rwa [hl, ← hY, ← hRr] at this
  have CR : Hid (∀ W B d (j : Nat) (y r : List Int) (P' : List (List Int)) (Y Rr : Array Value), HW W B P' → hashes P' → P'.length = q → j ≤ 100 → (q ≤ d ∧ d ≤ maxLen) → Y = nums .u8 y → Rr = nums .u8 r → (y.length = 32 ∧ bytes y) → (r.length = 32 ∧ bytes r) → Calls Tryd.prog 35 #[.agg Y, .int .i64 (j : Int), .int .i64 (m : Int), .slice B q d, .agg Rr] W fun e w' => e = .returned (.int .i64 (checkF y (j : Int) (m : Int) P' r)) ∧ Below W.heap.size W w') := Lib.hid fun W B d j y r P' Y Rr hB hP' hl hj hd hY hRr hy hr => by
    have := refCheck_any y r hy hr (j : Int) (m : Int) (by omega) (by omega) P' hP' B d W hB (by rw [hl]; exact hd.1) (by have := hd.2; unfold maxLen at this; omega)
    rwa [hl, ← hY, ← hRr] at this
  have HX32 := Lib.hid hx32
  have HH32 := Lib.hid h32
  have HR32 := Lib.hid hrt32
  have HHs := Lib.hid hh
  have HIL := Lib.hid hil
  have HT := Lib.hid hT
  clear hT h32 hx32 hrt32 hh hil hN1 him
  go_enter Tryd.func10, Tryd.ntmps10
  go_upto_region 1 with fail
  refine world_gen (fun W => Row W w.heap.size 31 H ∧ Below w.heap.size w W) ⟨by rw [← hH.out]; exact Row.made _ _ _, (Below.refl _ _).alloc (Nat.le_refl _) _⟩ (fun wx HX => ?_)
  have HX : Hid (Row wx w.heap.size 31 H ∧ Tab wx ∧ Below w.heap.size w wx) := Lib.hid ⟨HX.1, HT.out.next HX.2, HX.2⟩
  go_upto_region 3 with (go_at_call 30; (with_reducible refine (S0.out _).mono ?_); rintro e w1 ⟨⟨g, c, rfl, hc, hA⟩, hb⟩; have H1 : Hid (Row w1 w.heap.size 31 H ∧ HW w1 (some ⟨g, 0, none⟩) ls ∧ Tab w1 ∧ Below w.heap.size w w1) := Lib.hid ⟨HX.out.1.next hb, hA, HX.out.2.1.next hb, below_new HX.out.2.2 hb⟩; have HC := Lib.hid hc; clear hb hA hc)
  have HT1 := Lib.hid H1.out.2.2.1
  have HL1 := Lib.hid H1.out.2.1
  go_upto_region 5 with (go_at_call 29; (with_reducible refine (RR.out _ _ _ HL1.out HT1.out).mono ?_); rintro e w2 ⟨rfl, hb⟩; obtain ⟨w3, s3, hr3, hb3, hz3⟩ := made_write w2 R zR.out oR.out; have H3 : Hid (Row w3 w.heap.size 31 H ∧ Row w3 w2.heap.size 31 R ∧ HW w3 (some ⟨g, 0, none⟩) ls ∧ Tab w3 ∧ Below w.heap.size w w3) := Lib.hid ⟨(H1.out.1.next hb).next hb3, hr3, (HL1.out.next hb).next hb3, (HT1.out.next hb).next hb3, below_new (below_new H1.out.2.2.2 hb) hb3⟩; clear hr3 hb3 hz3 hb)
  clear s3
  have HT3 := Lib.hid H3.out.2.2.2.1
  have HL3 := Lib.hid H3.out.2.2.1
  go_upto_region 6 with (go_at_call 32; (with_reducible refine (PP.out _ _ _ HL3.out HT3.out HC.out).mono ?_); rintro e w4 ⟨Ap, cp, rfl, hcp, hA, hb⟩; have H4 : Hid (OtH w w2.heap.size g H R Ap ls P w4) := Lib.hid ⟨H3.out.1.next hb, H3.out.2.1.next hb, HL3.out.next hb, hA, HT3.out.next hb, below_new H3.out.2.2.2.2 hb⟩; have HCP := Lib.hid hcp; clear hb hA hcp)
  clear HX H1 HT1 HL1 H3 HT3 HL3 S0 RR PP
  obtain ⟨g10, hg10⟩ : ∃ g10, w2.heap.size = g10 := ⟨_, rfl⟩
  rw [hg10] at H4 ⊢
  clear hg10
  have hcp1 : cp ≤ 9223372036854775807 := by have := HCP.out.2; unfold maxLen at this; omega
  have hcp2 : q ≤ cp := HCP.out.1
  have RX : Hid (∀ W, OtH w g10 g H R Ap ls P W → (readAt (.pointer (some ⟨g, i * 32, none⟩))).run Tryd.prog W = .ok (.agg X) W) := Lib.hid fun W hW => by
    rw [hX.out, hx.out, ← add_flat]; exact HL.read hW.ls HHs.out i HIL.out
  obtain ⟨E1, hE1⟩ : ∃ E, Hid (E = checkF h (i : Int) (m : Int) P rt) := ⟨_, Lib.hid rfl⟩
  obtain ⟨E2, hE2⟩ : ∃ E, Hid (E = checkF x (i : Int) (m : Int) P h) := ⟨_, Lib.hid rfl⟩
  have C1p : Hid (∀ W, OtH w g10 g H R Ap ls P W → Calls Tryd.prog 34 #[.agg H, .int .i64 (i : Int), .int .i64 (m : Int), .slice Ap q cp, .agg R] W fun e w' => e = .returned (.int .i64 E1) ∧ Below W.heap.size W w') := Lib.hid fun W hW => by
    rw [hE1.out]; exact CP.out W Ap cp i h rt P H R hW.path hW.tab hPh.out hq.out.symm (by omega) HCP.out hH.out hR.out HH32.out HR32.out
  have C1r : Hid (∀ W, OtH w g10 g H R Ap ls P W → Calls Tryd.prog 35 #[.agg H, .int .i64 (i : Int), .int .i64 (m : Int), .slice Ap q cp, .agg R] W fun e w' => e = .returned (.int .i64 E1) ∧ Below W.heap.size W w') := Lib.hid fun W hW => by
    rw [hE1.out]; exact CR.out W Ap cp i h rt P H R hW.path hPh.out hq.out.symm (by omega) HCP.out hH.out hR.out HH32.out HR32.out
  have C2p : Hid (∀ W, OtH w g10 g H R Ap ls P W → Calls Tryd.prog 34 #[.agg X, .int .i64 (i : Int), .int .i64 (m : Int), .slice Ap q cp, .agg H] W fun e w' => e = .returned (.int .i64 E2) ∧ Below W.heap.size W w') := Lib.hid fun W hW => by
    rw [hE2.out]; exact CP.out W Ap cp i x h P X H hW.path hW.tab hPh.out hq.out.symm (by omega) HCP.out hX.out hH.out HX32.out HH32.out
  have C2r : Hid (∀ W, OtH w g10 g H R Ap ls P W → Calls Tryd.prog 35 #[.agg X, .int .i64 (i : Int), .int .i64 (m : Int), .slice Ap q cp, .agg H] W fun e w' => e = .returned (.int .i64 E2) ∧ Below W.heap.size W w') := Lib.hid fun W hW => by
    rw [hE2.out]; exact CR.out W Ap cp i x h P X H hW.path hPh.out hq.out.symm (by omega) HCP.out hX.out hH.out HX32.out HH32.out
  have K1 : Hid (h = x → E1 = 0) := Lib.hid fun e => by rw [hE1.out, e]; exact KF.out
  have K2 : Hid (h = rt → E2 = 0) := Lib.hid fun e => by rw [hE2.out, e]; exact KF.out
  obtain ⟨b1, hb1⟩ : ∃ b : Bool, b = decide (h = x) := ⟨_, rfl⟩
  obtain ⟨b2, hb2⟩ : ∃ b : Bool, b = decide (h = rt) := ⟨_, rfl⟩
  obtain ⟨T1, T1n⟩ := eq_three h x H X hH hX HH32.out HX32.out b1 hb1
  obtain ⟨T2, T2n⟩ := eq_three h rt H R hH hR HH32.out HR32.out b2 hb2
  have T1 := Lib.hid T1
  have T1n := Lib.hid T1n
  have T2 := Lib.hid T2
  have T2n := Lib.hid T2n
  have HOt := H4
  clear H4
  -- the three ways of the first question
  by_cases hA : b1 = false ∧ E1 = 0
  · obtain ⟨rfl, hA2⟩ := hA
    subst hA2
    have N1 : Hid (∀ W, (neqAt (.agg H) (.agg X)).run Tryd.prog W = .ok (.bool true) W) := T1n
    clear hb1 hb2
    refine wp_region_fk (Below w4.heap.size w4) (.get 0 (.get 1 (.get 2 (.get 3 (.get 4 (.get 5 (.get 6 (.get 7 (.get 8 (.get 9 (.get 10 (.get 11 (.call 12 (.get 13 (.get 14 (.get 15 (.get 16 (.get 17 (.get 18 (.get 19 (.get 20 (.get 21 (.get 22 (.get 23 (.get 24 (.get 25 (.get 26 (.get 27 (.get 28 (.get 29 (.get 30 (.get 31 .done)))))))))))))))))))))))))))))))) (by kernel_rfl) rfl (by kernel_rfl) (by kernel_rfl) (by intro c a d v w h; cases d <;> exact h) (Below.refl w4.heap.size w4).drew (fun Q' hQ => ?_)
    have HS := Lib.hid (Below.refl w4.heap.size w4).drew
    have HQ := Lib.hid hQ
    clear hQ
    refine wpFk_get rfl (by rfl) (fun K hK => ?_)
    refine ⟨_, fun w' hS' => get_load rfl rfl ((HOt.out.next hS').h.read zH.out), ?_⟩
    try go_simp
    refine hK _ ?_
    clear hK K
    refine wpFk_get rfl (by rfl) (fun K hK => ?_)
    refine ⟨?_, fun w' hS' => ?_, ?_⟩
    rotate_left
    · go_simp
      try (with_reducible rfl)
    try go_simp
    refine hK _ ?_
    clear hK K
    refine wpFk_get rfl (by rfl) (fun K hK => ?_)
    refine ⟨?_, fun w' hS' => ?_, ?_⟩
    rotate_left
    · go_simp
      try (with_reducible rfl)
    try go_simp
    refine hK _ ?_
    clear hK K
    refine wpFk_get rfl (by rfl) (fun K hK => ?_)
    refine ⟨?_, fun w' hS' => ?_, ?_⟩
    rotate_left
    · go_simp
      try (with_reducible rfl)
    try go_simp
    refine hK _ ?_
    clear hK K
    refine wpFk_get rfl (by rfl) (fun K hK => ?_)
    refine ⟨_, fun w' hS' => get_load rfl rfl (RX.out _ (HOt.out.next hS')), ?_⟩
    try go_simp
    refine hK _ ?_
    clear hK K
    refine wpFk_get rfl (by rfl) (fun K hK => ?_)
    refine ⟨_, fun w' hS' => get_neqH rfl rfl rfl (N1.out _), ?_⟩
    try go_simp
    refine hK _ ?_
    clear hK K
    refine wpFk_get rfl (by rfl) (fun K hK => ?_)
    refine ⟨?_, fun w' hS' => ?_, ?_⟩
    rotate_left
    · go_simp
      try (with_reducible rfl)
    try go_simp
    refine hK _ ?_
    clear hK K
    refine wpFk_get rfl (by rfl) (fun K hK => ?_)
    refine ⟨_, fun w' hS' => get_load rfl rfl ((HOt.out.next hS').h.read zH.out), ?_⟩
    try go_simp
    refine hK _ ?_
    clear hK K
    refine wpFk_get rfl (by rfl) (fun K hK => ?_)
    refine ⟨?_, fun w' hS' => ?_, ?_⟩
    rotate_left
    · go_simp
      try (with_reducible rfl)
    try go_simp
    refine hK _ ?_
    clear hK K
    refine wpFk_get rfl (by rfl) (fun K hK => ?_)
    refine ⟨?_, fun w' hS' => ?_, ?_⟩
    rotate_left
    · go_simp
      try (with_reducible rfl)
    try go_simp
    refine hK _ ?_
    clear hK K
    refine wpFk_get rfl (by rfl) (fun K hK => ?_)
    refine ⟨?_, fun w' hS' => ?_, ?_⟩
    rotate_left
    · go_simp
      try (with_reducible rfl)
    try go_simp
    refine hK _ ?_
    clear hK K
    refine wpFk_get rfl (by rfl) (fun K hK => ?_)
    refine ⟨_, fun w' hS' => get_load rfl rfl ((HOt.out.next hS').rt.read zR.out), ?_⟩
    try go_simp
    refine hK _ ?_
    clear hK K
    refine wpFk_call rfl (by rfl) (fun K hK => ?_)
    go_simp
    go_at_call 35
    refine (C1r.out _ (HOt.out.next HS.out)).mono ?_
    rintro e w2x ⟨rfl, hb⟩
    replace HS := Lib.hid (below_new HS.out hb)
    clear hb
    refine hK _ _ HS.out ?_
    clear hK K
    refine wpFk_get rfl (by rfl) (fun K hK => ?_)
    refine ⟨?_, fun w' hS' => ?_, ?_⟩
    rotate_left
    · go_simp
      try (with_reducible rfl)
    try go_simp
    refine hK _ ?_
    clear hK K
    refine wpFk_get rfl (by rfl) (fun K hK => ?_)
    refine ⟨?_, fun w' hS' => ?_, ?_⟩
    rotate_left
    · go_simp
      try (with_reducible rfl)
    try go_simp
    refine hK _ ?_
    clear hK K
    refine wpFk_get rfl (by rfl) (fun K hK => ?_)
    refine ⟨?_, fun w' hS' => ?_, ?_⟩
    rotate_left
    · go_simp
      try (with_reducible rfl)
    try go_simp
    refine hK _ ?_
    clear hK K
    refine wpFk_skip rfl (by rfl) (fun K hK => ?_)
    try go_simp
    refine hK _ ?_
    clear hK K
    refine wpFk_skip rfl (by rfl) (fun K hK => ?_)
    try go_simp
    refine hK _ ?_
    clear hK K
    refine wpFk_skip rfl (by rfl) (fun K hK => ?_)
    try go_simp
    refine hK _ ?_
    clear hK K
    refine wpFk_skip rfl (by rfl) (fun K hK => ?_)
    try go_simp
    refine hK _ ?_
    clear hK K
    refine wpFk_skip rfl (by rfl) (fun K hK => ?_)
    try go_simp
    refine hK _ ?_
    clear hK K
    refine wpFk_skip rfl (by rfl) (fun K hK => ?_)
    try go_simp
    refine hK _ ?_
    clear hK K
    refine wpFk_skip rfl (by rfl) (fun K hK => ?_)
    try go_simp
    refine hK _ ?_
    clear hK K
    refine wpFk_skip rfl (by rfl) (fun K hK => ?_)
    try go_simp
    refine hK _ ?_
    clear hK K
    refine wpFk_skip rfl (by rfl) (fun K hK => ?_)
    try go_simp
    refine hK _ ?_
    clear hK K
    refine wpFk_skip rfl (by rfl) (fun K hK => ?_)
    try go_simp
    refine hK _ ?_
    clear hK K
    refine wpFk_skip rfl (by rfl) (fun K hK => ?_)
    try go_simp
    refine hK _ ?_
    clear hK K
    refine wpFk_skip rfl (by rfl) (fun K hK => ?_)
    try go_simp
    refine hK _ ?_
    clear hK K
    refine wpFk_skip rfl (by rfl) (fun K hK => ?_)
    try go_simp
    refine hK _ ?_
    clear hK K
    refine wpFk_skip rfl (by rfl) (fun K hK => ?_)
    try go_simp
    refine hK _ ?_
    clear hK K
    refine wpFk_skip rfl (by rfl) (fun K hK => ?_)
    try go_simp
    refine hK _ ?_
    clear hK K
    refine wpFk_get rfl (by rfl) (fun K hK => ?_)
    refine ⟨?_, fun w' hS' => ?_, ?_⟩
    rotate_left
    · go_simp
      try (with_reducible rfl)
    try go_simp
    refine hK _ ?_
    clear hK K
    refine wpFk_done ?_
    refine HQ.out _ _ ?_
    have HTB := Lib.hid (HOt.out.next HS.out).tab
    have HBB := Lib.hid (HOt.out.next HS.out).below
    go_wp2_with (go_at_call 31; (with_reducible refine (found_any _ HTB.out).mono ?_); rintro e w9 ⟨rfl, hb⟩; have HB9 := Lib.hid (below_new HBB.out hb); clear hb)
    go_ret
    exact ⟨rfl, HB9.out⟩
  have HA := Lib.hid hA
  by_cases hB : b2 = false ∧ E2 = 0
  · obtain ⟨rfl, hB2⟩ := hB
    subst hB2
    have N2 : Hid (∀ W, (neqAt (.agg H) (.agg R)).run Tryd.prog W = .ok (.bool true) W) := T2n
    cases b1 with
    | true =>
      have N1 : Hid (∀ W, (neqAt (.agg H) (.agg X)).run Tryd.prog W = .ok (.bool false) W) := T1n
      clear hb1 hb2 hA
      refine wp_region_fk (Below w4.heap.size w4) (.get 0 (.get 1 (.get 2 (.get 3 (.get 4 (.get 5 (.get 6 (.get 7 (.get 8 (.get 9 (.get 10 (.get 11 (.get 12 (.get 13 (.get 14 (.get 15 (.get 16 (.get 17 (.get 18 (.get 19 (.get 20 (.get 21 (.get 22 (.get 23 (.get 24 (.get 25 (.get 26 (.get 27 (.call 28 (.get 29 (.get 30 (.get 31 .done)))))))))))))))))))))))))))))))) (by kernel_rfl) rfl (by kernel_rfl) (by kernel_rfl) (by intro c a d v w h; cases d <;> exact h) (Below.refl w4.heap.size w4).drew (fun Q' hQ => ?_)
      have HS := Lib.hid (Below.refl w4.heap.size w4).drew
      have HQ := Lib.hid hQ
      clear hQ
      refine wpFk_get rfl (by rfl) (fun K hK => ?_)
      refine ⟨_, fun w' hS' => get_load rfl rfl ((HOt.out.next hS').h.read zH.out), ?_⟩
      try go_simp
      refine hK _ ?_
      clear hK K
      refine wpFk_get rfl (by rfl) (fun K hK => ?_)
      refine ⟨?_, fun w' hS' => ?_, ?_⟩
      rotate_left
      · go_simp
        try (with_reducible rfl)
      try go_simp
      refine hK _ ?_
      clear hK K
      refine wpFk_get rfl (by rfl) (fun K hK => ?_)
      refine ⟨?_, fun w' hS' => ?_, ?_⟩
      rotate_left
      · go_simp
        try (with_reducible rfl)
      try go_simp
      refine hK _ ?_
      clear hK K
      refine wpFk_get rfl (by rfl) (fun K hK => ?_)
      refine ⟨?_, fun w' hS' => ?_, ?_⟩
      rotate_left
      · go_simp
        try (with_reducible rfl)
      try go_simp
      refine hK _ ?_
      clear hK K
      refine wpFk_get rfl (by rfl) (fun K hK => ?_)
      refine ⟨_, fun w' hS' => get_load rfl rfl (RX.out _ (HOt.out.next hS')), ?_⟩
      try go_simp
      refine hK _ ?_
      clear hK K
      refine wpFk_get rfl (by rfl) (fun K hK => ?_)
      refine ⟨_, fun w' hS' => get_neqH rfl rfl rfl (N1.out _), ?_⟩
      try go_simp
      refine hK _ ?_
      clear hK K
      refine wpFk_get rfl (by rfl) (fun K hK => ?_)
      refine ⟨?_, fun w' hS' => ?_, ?_⟩
      rotate_left
      · go_simp
        try (with_reducible rfl)
      try go_simp
      refine hK _ ?_
      clear hK K
      refine wpFk_skip rfl (by rfl) (fun K hK => ?_)
      try go_simp
      refine hK _ ?_
      clear hK K
      refine wpFk_skip rfl (by rfl) (fun K hK => ?_)
      try go_simp
      refine hK _ ?_
      clear hK K
      refine wpFk_skip rfl (by rfl) (fun K hK => ?_)
      try go_simp
      refine hK _ ?_
      clear hK K
      refine wpFk_skip rfl (by rfl) (fun K hK => ?_)
      try go_simp
      refine hK _ ?_
      clear hK K
      refine wpFk_skip rfl (by rfl) (fun K hK => ?_)
      try go_simp
      refine hK _ ?_
      clear hK K
      refine wpFk_skip rfl (by rfl) (fun K hK => ?_)
      try go_simp
      refine hK _ ?_
      clear hK K
      refine wpFk_skip rfl (by rfl) (fun K hK => ?_)
      try go_simp
      refine hK _ ?_
      clear hK K
      refine wpFk_get rfl (by rfl) (fun K hK => ?_)
      refine ⟨?_, fun w' hS' => ?_, ?_⟩
      rotate_left
      · go_simp
        try (with_reducible rfl)
      try go_simp
      refine hK _ ?_
      clear hK K
      refine wpFk_get rfl (by rfl) (fun K hK => ?_)
      refine ⟨?_, fun w' hS' => ?_, ?_⟩
      rotate_left
      · go_simp
        try (with_reducible rfl)
      try go_simp
      refine hK _ ?_
      clear hK K
      refine wpFk_get rfl (by rfl) (fun K hK => ?_)
      refine ⟨_, fun w' hS' => get_load rfl rfl ((HOt.out.next hS').h.read zH.out), ?_⟩
      try go_simp
      refine hK _ ?_
      clear hK K
      refine wpFk_get rfl (by rfl) (fun K hK => ?_)
      refine ⟨_, fun w' hS' => get_load rfl rfl ((HOt.out.next hS').rt.read zR.out), ?_⟩
      try go_simp
      refine hK _ ?_
      clear hK K
      refine wpFk_get rfl (by rfl) (fun K hK => ?_)
      refine ⟨_, fun w' hS' => get_neqH rfl rfl rfl (N2.out _), ?_⟩
      try go_simp
      refine hK _ ?_
      clear hK K
      refine wpFk_get rfl (by rfl) (fun K hK => ?_)
      refine ⟨?_, fun w' hS' => ?_, ?_⟩
      rotate_left
      · go_simp
        try (with_reducible rfl)
      try go_simp
      refine hK _ ?_
      clear hK K
      refine wpFk_get rfl (by rfl) (fun K hK => ?_)
      refine ⟨?_, fun w' hS' => ?_, ?_⟩
      rotate_left
      · go_simp
        try (with_reducible rfl)
      try go_simp
      refine hK _ ?_
      clear hK K
      refine wpFk_get rfl (by rfl) (fun K hK => ?_)
      refine ⟨?_, fun w' hS' => ?_, ?_⟩
      rotate_left
      · go_simp
        try (with_reducible rfl)
      try go_simp
      refine hK _ ?_
      clear hK K
      refine wpFk_get rfl (by rfl) (fun K hK => ?_)
      refine ⟨?_, fun w' hS' => ?_, ?_⟩
      rotate_left
      · go_simp
        try (with_reducible rfl)
      try go_simp
      refine hK _ ?_
      clear hK K
      refine wpFk_get rfl (by rfl) (fun K hK => ?_)
      refine ⟨_, fun w' hS' => get_load rfl rfl (RX.out _ (HOt.out.next hS')), ?_⟩
      try go_simp
      refine hK _ ?_
      clear hK K
      refine wpFk_get rfl (by rfl) (fun K hK => ?_)
      refine ⟨?_, fun w' hS' => ?_, ?_⟩
      rotate_left
      · go_simp
        try (with_reducible rfl)
      try go_simp
      refine hK _ ?_
      clear hK K
      refine wpFk_get rfl (by rfl) (fun K hK => ?_)
      refine ⟨?_, fun w' hS' => ?_, ?_⟩
      rotate_left
      · go_simp
        try (with_reducible rfl)
      try go_simp
      refine hK _ ?_
      clear hK K
      refine wpFk_get rfl (by rfl) (fun K hK => ?_)
      refine ⟨?_, fun w' hS' => ?_, ?_⟩
      rotate_left
      · go_simp
        try (with_reducible rfl)
      try go_simp
      refine hK _ ?_
      clear hK K
      refine wpFk_get rfl (by rfl) (fun K hK => ?_)
      refine ⟨_, fun w' hS' => get_load rfl rfl ((HOt.out.next hS').h.read zH.out), ?_⟩
      try go_simp
      refine hK _ ?_
      clear hK K
      refine wpFk_call rfl (by rfl) (fun K hK => ?_)
      go_simp
      go_at_call 35
      refine (C2r.out _ (HOt.out.next HS.out)).mono ?_
      rintro e w2x ⟨rfl, hb⟩
      replace HS := Lib.hid (below_new HS.out hb)
      clear hb
      refine hK _ _ HS.out ?_
      clear hK K
      refine wpFk_get rfl (by rfl) (fun K hK => ?_)
      refine ⟨?_, fun w' hS' => ?_, ?_⟩
      rotate_left
      · go_simp
        try (with_reducible rfl)
      try go_simp
      refine hK _ ?_
      clear hK K
      refine wpFk_get rfl (by rfl) (fun K hK => ?_)
      refine ⟨?_, fun w' hS' => ?_, ?_⟩
      rotate_left
      · go_simp
        try (with_reducible rfl)
      try go_simp
      refine hK _ ?_
      clear hK K
      refine wpFk_get rfl (by rfl) (fun K hK => ?_)
      refine ⟨?_, fun w' hS' => ?_, ?_⟩
      rotate_left
      · go_simp
        try (with_reducible rfl)
      try go_simp
      refine hK _ ?_
      clear hK K
      refine wpFk_done ?_
      refine HQ.out _ _ ?_
      have HTB := Lib.hid (HOt.out.next HS.out).tab
      have HBB := Lib.hid (HOt.out.next HS.out).below
      go_wp2_with (go_at_call 31; (with_reducible refine (found_any _ HTB.out).mono ?_); rintro e w9 ⟨rfl, hb⟩; have HB9 := Lib.hid (below_new HBB.out hb); clear hb)
      go_ret
      exact ⟨rfl, HB9.out⟩
    | false =>
      have N1 : Hid (∀ W, (neqAt (.agg H) (.agg X)).run Tryd.prog W = .ok (.bool true) W) := T1n
      have f1 : (E1 == 0) = false := by simpa using fun e => HA.out ⟨rfl, e⟩
      clear hb1 hb2 hA
      refine wp_region_fk (Below w4.heap.size w4) (.get 0 (.get 1 (.get 2 (.get 3 (.get 4 (.get 5 (.get 6 (.get 7 (.get 8 (.get 9 (.get 10 (.get 11 (.call 12 (.get 13 (.get 14 (.get 15 (.get 16 (.get 17 (.get 18 (.get 19 (.get 20 (.get 21 (.get 22 (.get 23 (.get 24 (.get 25 (.get 26 (.get 27 (.call 28 (.get 29 (.get 30 (.get 31 .done)))))))))))))))))))))))))))))))) (by kernel_rfl) rfl (by kernel_rfl) (by kernel_rfl) (by intro c a d v w h; cases d <;> exact h) (Below.refl w4.heap.size w4).drew (fun Q' hQ => ?_)
      have HS := Lib.hid (Below.refl w4.heap.size w4).drew
      have HQ := Lib.hid hQ
      clear hQ
      refine wpFk_get rfl (by rfl) (fun K hK => ?_)
      refine ⟨_, fun w' hS' => get_load rfl rfl ((HOt.out.next hS').h.read zH.out), ?_⟩
      try go_simp
      refine hK _ ?_
      clear hK K
      refine wpFk_get rfl (by rfl) (fun K hK => ?_)
      refine ⟨?_, fun w' hS' => ?_, ?_⟩
      rotate_left
      · go_simp
        try (with_reducible rfl)
      try go_simp
      refine hK _ ?_
      clear hK K
      refine wpFk_get rfl (by rfl) (fun K hK => ?_)
      refine ⟨?_, fun w' hS' => ?_, ?_⟩
      rotate_left
      · go_simp
        try (with_reducible rfl)
      try go_simp
      refine hK _ ?_
      clear hK K
      refine wpFk_get rfl (by rfl) (fun K hK => ?_)
      refine ⟨?_, fun w' hS' => ?_, ?_⟩
      rotate_left
      · go_simp
        try (with_reducible rfl)
      try go_simp
      refine hK _ ?_
      clear hK K
      refine wpFk_get rfl (by rfl) (fun K hK => ?_)
      refine ⟨_, fun w' hS' => get_load rfl rfl (RX.out _ (HOt.out.next hS')), ?_⟩
      try go_simp
      refine hK _ ?_
      clear hK K
      refine wpFk_get rfl (by rfl) (fun K hK => ?_)
      refine ⟨_, fun w' hS' => get_neqH rfl rfl rfl (N1.out _), ?_⟩
      try go_simp
      refine hK _ ?_
      clear hK K
      refine wpFk_get rfl (by rfl) (fun K hK => ?_)
      refine ⟨?_, fun w' hS' => ?_, ?_⟩
      rotate_left
      · go_simp
        try (with_reducible rfl)
      try go_simp
      refine hK _ ?_
      clear hK K
      refine wpFk_get rfl (by rfl) (fun K hK => ?_)
      refine ⟨_, fun w' hS' => get_load rfl rfl ((HOt.out.next hS').h.read zH.out), ?_⟩
      try go_simp
      refine hK _ ?_
      clear hK K
      refine wpFk_get rfl (by rfl) (fun K hK => ?_)
      refine ⟨?_, fun w' hS' => ?_, ?_⟩
      rotate_left
      · go_simp
        try (with_reducible rfl)
      try go_simp
      refine hK _ ?_
      clear hK K
      refine wpFk_get rfl (by rfl) (fun K hK => ?_)
      refine ⟨?_, fun w' hS' => ?_, ?_⟩
      rotate_left
      · go_simp
        try (with_reducible rfl)
      try go_simp
      refine hK _ ?_
      clear hK K
      refine wpFk_get rfl (by rfl) (fun K hK => ?_)
      refine ⟨?_, fun w' hS' => ?_, ?_⟩
      rotate_left
      · go_simp
        try (with_reducible rfl)
      try go_simp
      refine hK _ ?_
      clear hK K
      refine wpFk_get rfl (by rfl) (fun K hK => ?_)
      refine ⟨_, fun w' hS' => get_load rfl rfl ((HOt.out.next hS').rt.read zR.out), ?_⟩
      try go_simp
      refine hK _ ?_
      clear hK K
      refine wpFk_call rfl (by rfl) (fun K hK => ?_)
      go_simp
      go_at_call 35
      refine (C1r.out _ (HOt.out.next HS.out)).mono ?_
      rintro e w2x ⟨rfl, hb⟩
      replace HS := Lib.hid (below_new HS.out hb)
      clear hb
      refine hK _ _ HS.out ?_
      clear hK K
      refine wpFk_get rfl (by rfl) (fun K hK => ?_)
      refine ⟨?_, fun w' hS' => ?_, ?_⟩
      rotate_left
      · go_simp
        try (with_reducible rfl)
      try go_simp
      refine hK _ ?_
      clear hK K
      refine wpFk_get rfl (by rfl) (fun K hK => ?_)
      refine ⟨?_, fun w' hS' => ?_, ?_⟩
      rotate_left
      · go_simp
        try (with_reducible rfl)
      try go_simp
      refine hK _ ?_
      clear hK K
      refine wpFk_get rfl (by rfl) (fun K hK => ?_)
      refine ⟨?_, fun w' hS' => ?_, ?_⟩
      rotate_left
      · go_simp
        try (with_reducible rfl)
      try go_simp
      refine hK _ ?_
      clear hK K
      refine wpFk_get rfl (by rfl) (fun K hK => ?_)
      refine ⟨_, fun w' hS' => get_load rfl rfl ((HOt.out.next hS').h.read zH.out), ?_⟩
      try go_simp
      refine hK _ ?_
      clear hK K
      refine wpFk_get rfl (by rfl) (fun K hK => ?_)
      refine ⟨_, fun w' hS' => get_load rfl rfl ((HOt.out.next hS').rt.read zR.out), ?_⟩
      try go_simp
      refine hK _ ?_
      clear hK K
      refine wpFk_get rfl (by rfl) (fun K hK => ?_)
      refine ⟨_, fun w' hS' => get_neqH rfl rfl rfl (N2.out _), ?_⟩
      try go_simp
      refine hK _ ?_
      clear hK K
      refine wpFk_get rfl (by rfl) (fun K hK => ?_)
      refine ⟨?_, fun w' hS' => ?_, ?_⟩
      rotate_left
      · go_simp
        try (with_reducible rfl)
      try go_simp
      refine hK _ ?_
      clear hK K
      refine wpFk_get rfl (by rfl) (fun K hK => ?_)
      refine ⟨?_, fun w' hS' => ?_, ?_⟩
      rotate_left
      · go_simp
        try (with_reducible rfl)
      try go_simp
      refine hK _ ?_
      clear hK K
      refine wpFk_get rfl (by rfl) (fun K hK => ?_)
      refine ⟨?_, fun w' hS' => ?_, ?_⟩
      rotate_left
      · go_simp
        try (with_reducible rfl)
      try go_simp
      refine hK _ ?_
      clear hK K
      refine wpFk_get rfl (by rfl) (fun K hK => ?_)
      refine ⟨?_, fun w' hS' => ?_, ?_⟩
      rotate_left
      · go_simp
        try (with_reducible rfl)
      try go_simp
      refine hK _ ?_
      clear hK K
      refine wpFk_get rfl (by rfl) (fun K hK => ?_)
      refine ⟨_, fun w' hS' => get_load rfl rfl (RX.out _ (HOt.out.next hS')), ?_⟩
      try go_simp
      refine hK _ ?_
      clear hK K
      refine wpFk_get rfl (by rfl) (fun K hK => ?_)
      refine ⟨?_, fun w' hS' => ?_, ?_⟩
      rotate_left
      · go_simp
        try (with_reducible rfl)
      try go_simp
      refine hK _ ?_
      clear hK K
      refine wpFk_get rfl (by rfl) (fun K hK => ?_)
      refine ⟨?_, fun w' hS' => ?_, ?_⟩
      rotate_left
      · go_simp
        try (with_reducible rfl)
      try go_simp
      refine hK _ ?_
      clear hK K
      refine wpFk_get rfl (by rfl) (fun K hK => ?_)
      refine ⟨?_, fun w' hS' => ?_, ?_⟩
      rotate_left
      · go_simp
        try (with_reducible rfl)
      try go_simp
      refine hK _ ?_
      clear hK K
      refine wpFk_get rfl (by rfl) (fun K hK => ?_)
      refine ⟨_, fun w' hS' => get_load rfl rfl ((HOt.out.next hS').h.read zH.out), ?_⟩
      try go_simp
      refine hK _ ?_
      clear hK K
      refine wpFk_call rfl (by rfl) (fun K hK => ?_)
      go_simp
      go_at_call 35
      refine (C2r.out _ (HOt.out.next HS.out)).mono ?_
      rintro e w2x ⟨rfl, hb⟩
      replace HS := Lib.hid (below_new HS.out hb)
      clear hb
      refine hK _ _ HS.out ?_
      clear hK K
      refine wpFk_get rfl (by rfl) (fun K hK => ?_)
      refine ⟨?_, fun w' hS' => ?_, ?_⟩
      rotate_left
      · go_simp
        try (with_reducible rfl)
      try go_simp
      refine hK _ ?_
      clear hK K
      refine wpFk_get rfl (by rfl) (fun K hK => ?_)
      refine ⟨?_, fun w' hS' => ?_, ?_⟩
      rotate_left
      · go_simp
        try (with_reducible rfl)
      try go_simp
      refine hK _ ?_
      clear hK K
      refine wpFk_get rfl (by rfl) (fun K hK => ?_)
      refine ⟨?_, fun w' hS' => ?_, ?_⟩
      rotate_left
      · go_simp
        try (with_reducible rfl)
      try go_simp
      refine hK _ ?_
      clear hK K
      refine wpFk_done ?_
      refine HQ.out _ _ ?_
      have HTB := Lib.hid (HOt.out.next HS.out).tab
      have HBB := Lib.hid (HOt.out.next HS.out).below
      go_wp2_with (go_at_call 31; (with_reducible refine (found_any _ HTB.out).mono ?_); rintro e w9 ⟨rfl, hb⟩; have HB9 := Lib.hid (below_new HBB.out hb); clear hb)
      go_ret
      exact ⟨rfl, HB9.out⟩
  have f1 : (E1 == 0) = b1 := by
    cases b1 with
    | true => rw [K1.out (of_decide_eq_true hb1.symm)]; rfl
    | false => simpa using fun e => hA ⟨rfl, e⟩
  have f2 : (E2 == 0) = b2 := by
    cases b2 with
    | true => rw [K2.out (of_decide_eq_true hb2.symm)]; rfl
    | false => simpa using fun e => hB ⟨rfl, e⟩
  have HF := Lib.hid (And.intro f1 f2)
  clear hA hB HA hb1 hb2
  go_cut [66] (fun s66 wx => s66 = .bool false ∧ Hid (OtH w g10 g H R Ap ls P wx))
  case first =>
    cases b1 with
    | true =>
      have N1 : Hid (∀ W, (neqAt (.agg H) (.agg X)).run Tryd.prog W = .ok (.bool false) W) := T1n
      cases b2 with
      | true =>
        have N2 : Hid (∀ W, (neqAt (.agg H) (.agg R)).run Tryd.prog W = .ok (.bool false) W) := T2n
        refine wp_region_fk (Below w4.heap.size w4) (.get 0 (.get 1 (.get 2 (.get 3 (.get 4 (.get 5 (.get 6 (.get 7 (.get 8 (.get 9 (.get 10 (.get 11 (.get 12 (.get 13 (.get 14 (.get 15 (.get 16 (.get 17 (.get 18 (.get 19 (.get 20 (.get 21 (.get 22 (.get 23 (.get 24 (.get 25 (.get 26 (.get 27 (.get 28 (.get 29 (.get 30 (.get 31 .done)))))))))))))))))))))))))))))))) (by kernel_rfl) rfl (by kernel_rfl) (by kernel_rfl) (by intro c a d v w h; cases d <;> exact h) (Below.refl w4.heap.size w4).drew (fun Q' hQ => ?_)
        have HS := Lib.hid (Below.refl w4.heap.size w4).drew
        have HQ := Lib.hid hQ
        clear hQ
        refine wpFk_get rfl (by rfl) (fun K hK => ?_)
        refine ⟨_, fun w' hS' => get_load rfl rfl ((HOt.out.next hS').h.read zH.out), ?_⟩
        try go_simp
        refine hK _ ?_
        clear hK K
        refine wpFk_get rfl (by rfl) (fun K hK => ?_)
        refine ⟨?_, fun w' hS' => ?_, ?_⟩
        rotate_left
        · go_simp
          try (with_reducible rfl)
        try go_simp
        refine hK _ ?_
        clear hK K
        refine wpFk_get rfl (by rfl) (fun K hK => ?_)
        refine ⟨?_, fun w' hS' => ?_, ?_⟩
        rotate_left
        · go_simp
          try (with_reducible rfl)
        try go_simp
        refine hK _ ?_
        clear hK K
        refine wpFk_get rfl (by rfl) (fun K hK => ?_)
        refine ⟨?_, fun w' hS' => ?_, ?_⟩
        rotate_left
        · go_simp
          try (with_reducible rfl)
        try go_simp
        refine hK _ ?_
        clear hK K
        refine wpFk_get rfl (by rfl) (fun K hK => ?_)
        refine ⟨_, fun w' hS' => get_load rfl rfl (RX.out _ (HOt.out.next hS')), ?_⟩
        try go_simp
        refine hK _ ?_
        clear hK K
        refine wpFk_get rfl (by rfl) (fun K hK => ?_)
        refine ⟨_, fun w' hS' => get_neqH rfl rfl rfl (N1.out _), ?_⟩
        try go_simp
        refine hK _ ?_
        clear hK K
        refine wpFk_get rfl (by rfl) (fun K hK => ?_)
        refine ⟨?_, fun w' hS' => ?_, ?_⟩
        rotate_left
        · go_simp
          try (with_reducible rfl)
        try go_simp
        refine hK _ ?_
        clear hK K
        refine wpFk_skip rfl (by rfl) (fun K hK => ?_)
        try go_simp
        refine hK _ ?_
        clear hK K
        refine wpFk_skip rfl (by rfl) (fun K hK => ?_)
        try go_simp
        refine hK _ ?_
        clear hK K
        refine wpFk_skip rfl (by rfl) (fun K hK => ?_)
        try go_simp
        refine hK _ ?_
        clear hK K
        refine wpFk_skip rfl (by rfl) (fun K hK => ?_)
        try go_simp
        refine hK _ ?_
        clear hK K
        refine wpFk_skip rfl (by rfl) (fun K hK => ?_)
        try go_simp
        refine hK _ ?_
        clear hK K
        refine wpFk_skip rfl (by rfl) (fun K hK => ?_)
        try go_simp
        refine hK _ ?_
        clear hK K
        refine wpFk_skip rfl (by rfl) (fun K hK => ?_)
        try go_simp
        refine hK _ ?_
        clear hK K
        refine wpFk_get rfl (by rfl) (fun K hK => ?_)
        refine ⟨?_, fun w' hS' => ?_, ?_⟩
        rotate_left
        · go_simp
          try (with_reducible rfl)
        try go_simp
        refine hK _ ?_
        clear hK K
        refine wpFk_get rfl (by rfl) (fun K hK => ?_)
        refine ⟨?_, fun w' hS' => ?_, ?_⟩
        rotate_left
        · go_simp
          try (with_reducible rfl)
        try go_simp
        refine hK _ ?_
        clear hK K
        refine wpFk_get rfl (by rfl) (fun K hK => ?_)
        refine ⟨_, fun w' hS' => get_load rfl rfl ((HOt.out.next hS').h.read zH.out), ?_⟩
        try go_simp
        refine hK _ ?_
        clear hK K
        refine wpFk_get rfl (by rfl) (fun K hK => ?_)
        refine ⟨_, fun w' hS' => get_load rfl rfl ((HOt.out.next hS').rt.read zR.out), ?_⟩
        try go_simp
        refine hK _ ?_
        clear hK K
        refine wpFk_get rfl (by rfl) (fun K hK => ?_)
        refine ⟨_, fun w' hS' => get_neqH rfl rfl rfl (N2.out _), ?_⟩
        try go_simp
        refine hK _ ?_
        clear hK K
        refine wpFk_get rfl (by rfl) (fun K hK => ?_)
        refine ⟨?_, fun w' hS' => ?_, ?_⟩
        rotate_left
        · go_simp
          try (with_reducible rfl)
        try go_simp
        refine hK _ ?_
        clear hK K
        refine wpFk_skip rfl (by rfl) (fun K hK => ?_)
        try go_simp
        refine hK _ ?_
        clear hK K
        refine wpFk_skip rfl (by rfl) (fun K hK => ?_)
        try go_simp
        refine hK _ ?_
        clear hK K
        refine wpFk_skip rfl (by rfl) (fun K hK => ?_)
        try go_simp
        refine hK _ ?_
        clear hK K
        refine wpFk_skip rfl (by rfl) (fun K hK => ?_)
        try go_simp
        refine hK _ ?_
        clear hK K
        refine wpFk_skip rfl (by rfl) (fun K hK => ?_)
        try go_simp
        refine hK _ ?_
        clear hK K
        refine wpFk_skip rfl (by rfl) (fun K hK => ?_)
        try go_simp
        refine hK _ ?_
        clear hK K
        refine wpFk_skip rfl (by rfl) (fun K hK => ?_)
        try go_simp
        refine hK _ ?_
        clear hK K
        refine wpFk_skip rfl (by rfl) (fun K hK => ?_)
        try go_simp
        refine hK _ ?_
        clear hK K
        refine wpFk_skip rfl (by rfl) (fun K hK => ?_)
        try go_simp
        refine hK _ ?_
        clear hK K
        refine wpFk_skip rfl (by rfl) (fun K hK => ?_)
        try go_simp
        refine hK _ ?_
        clear hK K
        refine wpFk_get rfl (by rfl) (fun K hK => ?_)
        refine ⟨?_, fun w' hS' => ?_, ?_⟩
        rotate_left
        · go_simp
          try (with_reducible rfl)
        try go_simp
        refine hK _ ?_
        clear hK K
        refine wpFk_get rfl (by rfl) (fun K hK => ?_)
        refine ⟨?_, fun w' hS' => ?_, ?_⟩
        rotate_left
        · go_simp
          try (with_reducible rfl)
        try go_simp
        refine hK _ ?_
        clear hK K
        refine wpFk_done ?_
        refine HQ.out _ _ ?_
        go_wp2
        go_meet
        case rel => exact ⟨rfl, Lib.hid (HOt.out.next HS.out)⟩
      | false =>
        have N2 : Hid (∀ W, (neqAt (.agg H) (.agg R)).run Tryd.prog W = .ok (.bool true) W) := T2n
        refine wp_region_fk (Below w4.heap.size w4) (.get 0 (.get 1 (.get 2 (.get 3 (.get 4 (.get 5 (.get 6 (.get 7 (.get 8 (.get 9 (.get 10 (.get 11 (.get 12 (.get 13 (.get 14 (.get 15 (.get 16 (.get 17 (.get 18 (.get 19 (.get 20 (.get 21 (.get 22 (.get 23 (.get 24 (.get 25 (.get 26 (.get 27 (.call 28 (.get 29 (.get 30 (.get 31 .done)))))))))))))))))))))))))))))))) (by kernel_rfl) rfl (by kernel_rfl) (by kernel_rfl) (by intro c a d v w h; cases d <;> exact h) (Below.refl w4.heap.size w4).drew (fun Q' hQ => ?_)
        have HS := Lib.hid (Below.refl w4.heap.size w4).drew
        have HQ := Lib.hid hQ
        clear hQ
        refine wpFk_get rfl (by rfl) (fun K hK => ?_)
        refine ⟨_, fun w' hS' => get_load rfl rfl ((HOt.out.next hS').h.read zH.out), ?_⟩
        try go_simp
        refine hK _ ?_
        clear hK K
        refine wpFk_get rfl (by rfl) (fun K hK => ?_)
        refine ⟨?_, fun w' hS' => ?_, ?_⟩
        rotate_left
        · go_simp
          try (with_reducible rfl)
        try go_simp
        refine hK _ ?_
        clear hK K
        refine wpFk_get rfl (by rfl) (fun K hK => ?_)
        refine ⟨?_, fun w' hS' => ?_, ?_⟩
        rotate_left
        · go_simp
          try (with_reducible rfl)
        try go_simp
        refine hK _ ?_
        clear hK K
        refine wpFk_get rfl (by rfl) (fun K hK => ?_)
        refine ⟨?_, fun w' hS' => ?_, ?_⟩
        rotate_left
        · go_simp
          try (with_reducible rfl)
        try go_simp
        refine hK _ ?_
        clear hK K
        refine wpFk_get rfl (by rfl) (fun K hK => ?_)
        refine ⟨_, fun w' hS' => get_load rfl rfl (RX.out _ (HOt.out.next hS')), ?_⟩
        try go_simp
        refine hK _ ?_
        clear hK K
        refine wpFk_get rfl (by rfl) (fun K hK => ?_)
        refine ⟨_, fun w' hS' => get_neqH rfl rfl rfl (N1.out _), ?_⟩
        try go_simp
        refine hK _ ?_
        clear hK K
        refine wpFk_get rfl (by rfl) (fun K hK => ?_)
        refine ⟨?_, fun w' hS' => ?_, ?_⟩
        rotate_left
        · go_simp
          try (with_reducible rfl)
        try go_simp
        refine hK _ ?_
        clear hK K
        refine wpFk_skip rfl (by rfl) (fun K hK => ?_)
        try go_simp
        refine hK _ ?_
        clear hK K
        refine wpFk_skip rfl (by rfl) (fun K hK => ?_)
        try go_simp
        refine hK _ ?_
        clear hK K
        refine wpFk_skip rfl (by rfl) (fun K hK => ?_)
        try go_simp
        refine hK _ ?_
        clear hK K
        refine wpFk_skip rfl (by rfl) (fun K hK => ?_)
        try go_simp
        refine hK _ ?_
        clear hK K
        refine wpFk_skip rfl (by rfl) (fun K hK => ?_)
        try go_simp
        refine hK _ ?_
        clear hK K
        refine wpFk_skip rfl (by rfl) (fun K hK => ?_)
        try go_simp
        refine hK _ ?_
        clear hK K
        refine wpFk_skip rfl (by rfl) (fun K hK => ?_)
        try go_simp
        refine hK _ ?_
        clear hK K
        refine wpFk_get rfl (by rfl) (fun K hK => ?_)
        refine ⟨?_, fun w' hS' => ?_, ?_⟩
        rotate_left
        · go_simp
          try (with_reducible rfl)
        try go_simp
        refine hK _ ?_
        clear hK K
        refine wpFk_get rfl (by rfl) (fun K hK => ?_)
        refine ⟨?_, fun w' hS' => ?_, ?_⟩
        rotate_left
        · go_simp
          try (with_reducible rfl)
        try go_simp
        refine hK _ ?_
        clear hK K
        refine wpFk_get rfl (by rfl) (fun K hK => ?_)
        refine ⟨_, fun w' hS' => get_load rfl rfl ((HOt.out.next hS').h.read zH.out), ?_⟩
        try go_simp
        refine hK _ ?_
        clear hK K
        refine wpFk_get rfl (by rfl) (fun K hK => ?_)
        refine ⟨_, fun w' hS' => get_load rfl rfl ((HOt.out.next hS').rt.read zR.out), ?_⟩
        try go_simp
        refine hK _ ?_
        clear hK K
        refine wpFk_get rfl (by rfl) (fun K hK => ?_)
        refine ⟨_, fun w' hS' => get_neqH rfl rfl rfl (N2.out _), ?_⟩
        try go_simp
        refine hK _ ?_
        clear hK K
        refine wpFk_get rfl (by rfl) (fun K hK => ?_)
        refine ⟨?_, fun w' hS' => ?_, ?_⟩
        rotate_left
        · go_simp
          try (with_reducible rfl)
        try go_simp
        refine hK _ ?_
        clear hK K
        refine wpFk_get rfl (by rfl) (fun K hK => ?_)
        refine ⟨?_, fun w' hS' => ?_, ?_⟩
        rotate_left
        · go_simp
          try (with_reducible rfl)
        try go_simp
        refine hK _ ?_
        clear hK K
        refine wpFk_get rfl (by rfl) (fun K hK => ?_)
        refine ⟨?_, fun w' hS' => ?_, ?_⟩
        rotate_left
        · go_simp
          try (with_reducible rfl)
        try go_simp
        refine hK _ ?_
        clear hK K
        refine wpFk_get rfl (by rfl) (fun K hK => ?_)
        refine ⟨?_, fun w' hS' => ?_, ?_⟩
        rotate_left
        · go_simp
          try (with_reducible rfl)
        try go_simp
        refine hK _ ?_
        clear hK K
        refine wpFk_get rfl (by rfl) (fun K hK => ?_)
        refine ⟨_, fun w' hS' => get_load rfl rfl (RX.out _ (HOt.out.next hS')), ?_⟩
        try go_simp
        refine hK _ ?_
        clear hK K
        refine wpFk_get rfl (by rfl) (fun K hK => ?_)
        refine ⟨?_, fun w' hS' => ?_, ?_⟩
        rotate_left
        · go_simp
          try (with_reducible rfl)
        try go_simp
        refine hK _ ?_
        clear hK K
        refine wpFk_get rfl (by rfl) (fun K hK => ?_)
        refine ⟨?_, fun w' hS' => ?_, ?_⟩
        rotate_left
        · go_simp
          try (with_reducible rfl)
        try go_simp
        refine hK _ ?_
        clear hK K
        refine wpFk_get rfl (by rfl) (fun K hK => ?_)
        refine ⟨?_, fun w' hS' => ?_, ?_⟩
        rotate_left
        · go_simp
          try (with_reducible rfl)
        try go_simp
        refine hK _ ?_
        clear hK K
        refine wpFk_get rfl (by rfl) (fun K hK => ?_)
        refine ⟨_, fun w' hS' => get_load rfl rfl ((HOt.out.next hS').h.read zH.out), ?_⟩
        try go_simp
        refine hK _ ?_
        clear hK K
        refine wpFk_call rfl (by rfl) (fun K hK => ?_)
        go_simp
        go_at_call 35
        refine (C2r.out _ (HOt.out.next HS.out)).mono ?_
        rintro e w2x ⟨rfl, hb⟩
        replace HS := Lib.hid (below_new HS.out hb)
        clear hb
        refine hK _ _ HS.out ?_
        clear hK K
        refine wpFk_get rfl (by rfl) (fun K hK => ?_)
        refine ⟨?_, fun w' hS' => ?_, ?_⟩
        rotate_left
        · go_simp
          try (with_reducible rfl)
        try go_simp
        refine hK _ ?_
        clear hK K
        refine wpFk_get rfl (by rfl) (fun K hK => ?_)
        refine ⟨?_, fun w' hS' => ?_, ?_⟩
        rotate_left
        · go_simp
          try (with_reducible rfl)
        try go_simp
        refine hK _ ?_
        clear hK K
        refine wpFk_get rfl (by rfl) (fun K hK => ?_)
        refine ⟨?_, fun w' hS' => ?_, ?_⟩
        rotate_left
        · go_simp
          try (with_reducible rfl)
        try go_simp
        refine hK _ ?_
        clear hK K
        refine wpFk_done ?_
        refine HQ.out _ _ ?_
        go_wp2
        go_meet
        case rel => exact ⟨rfl, Lib.hid (HOt.out.next HS.out)⟩
    | false =>
      have N1 : Hid (∀ W, (neqAt (.agg H) (.agg X)).run Tryd.prog W = .ok (.bool true) W) := T1n
      cases b2 with
      | true =>
        have N2 : Hid (∀ W, (neqAt (.agg H) (.agg R)).run Tryd.prog W = .ok (.bool false) W) := T2n
        refine wp_region_fk (Below w4.heap.size w4) (.get 0 (.get 1 (.get 2 (.get 3 (.get 4 (.get 5 (.get 6 (.get 7 (.get 8 (.get 9 (.get 10 (.get 11 (.call 12 (.get 13 (.get 14 (.get 15 (.get 16 (.get 17 (.get 18 (.get 19 (.get 20 (.get 21 (.get 22 (.get 23 (.get 24 (.get 25 (.get 26 (.get 27 (.get 28 (.get 29 (.get 30 (.get 31 .done)))))))))))))))))))))))))))))))) (by kernel_rfl) rfl (by kernel_rfl) (by kernel_rfl) (by intro c a d v w h; cases d <;> exact h) (Below.refl w4.heap.size w4).drew (fun Q' hQ => ?_)
        have HS := Lib.hid (Below.refl w4.heap.size w4).drew
        have HQ := Lib.hid hQ
        clear hQ
        refine wpFk_get rfl (by rfl) (fun K hK => ?_)
        refine ⟨_, fun w' hS' => get_load rfl rfl ((HOt.out.next hS').h.read zH.out), ?_⟩
        try go_simp
        refine hK _ ?_
        clear hK K
        refine wpFk_get rfl (by rfl) (fun K hK => ?_)
        refine ⟨?_, fun w' hS' => ?_, ?_⟩
        rotate_left
        · go_simp
          try (with_reducible rfl)
        try go_simp
        refine hK _ ?_
        clear hK K
        refine wpFk_get rfl (by rfl) (fun K hK => ?_)
        refine ⟨?_, fun w' hS' => ?_, ?_⟩
        rotate_left
        · go_simp
          try (with_reducible rfl)
        try go_simp
        refine hK _ ?_
        clear hK K
        refine wpFk_get rfl (by rfl) (fun K hK => ?_)
        refine ⟨?_, fun w' hS' => ?_, ?_⟩
        rotate_left
        · go_simp
          try (with_reducible rfl)
        try go_simp
        refine hK _ ?_
        clear hK K
        refine wpFk_get rfl (by rfl) (fun K hK => ?_)
        refine ⟨_, fun w' hS' => get_load rfl rfl (RX.out _ (HOt.out.next hS')), ?_⟩
        try go_simp
        refine hK _ ?_
        clear hK K
        refine wpFk_get rfl (by rfl) (fun K hK => ?_)
        refine ⟨_, fun w' hS' => get_neqH rfl rfl rfl (N1.out _), ?_⟩
        try go_simp
        refine hK _ ?_
        clear hK K
        refine wpFk_get rfl (by rfl) (fun K hK => ?_)
        refine ⟨?_, fun w' hS' => ?_, ?_⟩
        rotate_left
        · go_simp
          try (with_reducible rfl)
        try go_simp
        refine hK _ ?_
        clear hK K
        refine wpFk_get rfl (by rfl) (fun K hK => ?_)
        refine ⟨_, fun w' hS' => get_load rfl rfl ((HOt.out.next hS').h.read zH.out), ?_⟩
        try go_simp
        refine hK _ ?_
        clear hK K
        refine wpFk_get rfl (by rfl) (fun K hK => ?_)
        refine ⟨?_, fun w' hS' => ?_, ?_⟩
        rotate_left
        · go_simp
          try (with_reducible rfl)
        try go_simp
        refine hK _ ?_
        clear hK K
        refine wpFk_get rfl (by rfl) (fun K hK => ?_)
        refine ⟨?_, fun w' hS' => ?_, ?_⟩
        rotate_left
        · go_simp
          try (with_reducible rfl)
        try go_simp
        refine hK _ ?_
        clear hK K
        refine wpFk_get rfl (by rfl) (fun K hK => ?_)
        refine ⟨?_, fun w' hS' => ?_, ?_⟩
        rotate_left
        · go_simp
          try (with_reducible rfl)
        try go_simp
        refine hK _ ?_
        clear hK K
        refine wpFk_get rfl (by rfl) (fun K hK => ?_)
        refine ⟨_, fun w' hS' => get_load rfl rfl ((HOt.out.next hS').rt.read zR.out), ?_⟩
        try go_simp
        refine hK _ ?_
        clear hK K
        refine wpFk_call rfl (by rfl) (fun K hK => ?_)
        go_simp
        go_at_call 35
        refine (C1r.out _ (HOt.out.next HS.out)).mono ?_
        rintro e w2x ⟨rfl, hb⟩
        replace HS := Lib.hid (below_new HS.out hb)
        clear hb
        refine hK _ _ HS.out ?_
        clear hK K
        refine wpFk_get rfl (by rfl) (fun K hK => ?_)
        refine ⟨?_, fun w' hS' => ?_, ?_⟩
        rotate_left
        · go_simp
          try (with_reducible rfl)
        try go_simp
        refine hK _ ?_
        clear hK K
        refine wpFk_get rfl (by rfl) (fun K hK => ?_)
        refine ⟨?_, fun w' hS' => ?_, ?_⟩
        rotate_left
        · go_simp
          try (with_reducible rfl)
        try go_simp
        refine hK _ ?_
        clear hK K
        refine wpFk_get rfl (by rfl) (fun K hK => ?_)
        refine ⟨?_, fun w' hS' => ?_, ?_⟩
        rotate_left
        · go_simp
          try (with_reducible rfl)
        try go_simp
        refine hK _ ?_
        clear hK K
        refine wpFk_get rfl (by rfl) (fun K hK => ?_)
        refine ⟨_, fun w' hS' => get_load rfl rfl ((HOt.out.next hS').h.read zH.out), ?_⟩
        try go_simp
        refine hK _ ?_
        clear hK K
        refine wpFk_get rfl (by rfl) (fun K hK => ?_)
        refine ⟨_, fun w' hS' => get_load rfl rfl ((HOt.out.next hS').rt.read zR.out), ?_⟩
        try go_simp
        refine hK _ ?_
        clear hK K
        refine wpFk_get rfl (by rfl) (fun K hK => ?_)
        refine ⟨_, fun w' hS' => get_neqH rfl rfl rfl (N2.out _), ?_⟩
        try go_simp
        refine hK _ ?_
        clear hK K
        refine wpFk_get rfl (by rfl) (fun K hK => ?_)
        refine ⟨?_, fun w' hS' => ?_, ?_⟩
        rotate_left
        · go_simp
          try (with_reducible rfl)
        try go_simp
        refine hK _ ?_
        clear hK K
        refine wpFk_skip rfl (by rfl) (fun K hK => ?_)
        try go_simp
        refine hK _ ?_
        clear hK K
        refine wpFk_skip rfl (by rfl) (fun K hK => ?_)
        try go_simp
        refine hK _ ?_
        clear hK K
        refine wpFk_skip rfl (by rfl) (fun K hK => ?_)
        try go_simp
        refine hK _ ?_
        clear hK K
        refine wpFk_skip rfl (by rfl) (fun K hK => ?_)
        try go_simp
        refine hK _ ?_
        clear hK K
        refine wpFk_skip rfl (by rfl) (fun K hK => ?_)
        try go_simp
        refine hK _ ?_
        clear hK K
        refine wpFk_skip rfl (by rfl) (fun K hK => ?_)
        try go_simp
        refine hK _ ?_
        clear hK K
        refine wpFk_skip rfl (by rfl) (fun K hK => ?_)
        try go_simp
        refine hK _ ?_
        clear hK K
        refine wpFk_skip rfl (by rfl) (fun K hK => ?_)
        try go_simp
        refine hK _ ?_
        clear hK K
        refine wpFk_skip rfl (by rfl) (fun K hK => ?_)
        try go_simp
        refine hK _ ?_
        clear hK K
        refine wpFk_skip rfl (by rfl) (fun K hK => ?_)
        try go_simp
        refine hK _ ?_
        clear hK K
        refine wpFk_get rfl (by rfl) (fun K hK => ?_)
        refine ⟨?_, fun w' hS' => ?_, ?_⟩
        rotate_left
        · go_simp
          try (with_reducible rfl)
        try go_simp
        refine hK _ ?_
        clear hK K
        refine wpFk_get rfl (by rfl) (fun K hK => ?_)
        refine ⟨?_, fun w' hS' => ?_, ?_⟩
        rotate_left
        · go_simp
          try (with_reducible rfl)
        try go_simp
        refine hK _ ?_
        clear hK K
        refine wpFk_done ?_
        refine HQ.out _ _ ?_
        go_wp2
        go_meet
        case rel => exact ⟨rfl, Lib.hid (HOt.out.next HS.out)⟩
      | false =>
        have N2 : Hid (∀ W, (neqAt (.agg H) (.agg R)).run Tryd.prog W = .ok (.bool true) W) := T2n
        refine wp_region_fk (Below w4.heap.size w4) (.get 0 (.get 1 (.get 2 (.get 3 (.get 4 (.get 5 (.get 6 (.get 7 (.get 8 (.get 9 (.get 10 (.get 11 (.call 12 (.get 13 (.get 14 (.get 15 (.get 16 (.get 17 (.get 18 (.get 19 (.get 20 (.get 21 (.get 22 (.get 23 (.get 24 (.get 25 (.get 26 (.get 27 (.call 28 (.get 29 (.get 30 (.get 31 .done)))))))))))))))))))))))))))))))) (by kernel_rfl) rfl (by kernel_rfl) (by kernel_rfl) (by intro c a d v w h; cases d <;> exact h) (Below.refl w4.heap.size w4).drew (fun Q' hQ => ?_)
        have HS := Lib.hid (Below.refl w4.heap.size w4).drew
        have HQ := Lib.hid hQ
        clear hQ
        refine wpFk_get rfl (by rfl) (fun K hK => ?_)
        refine ⟨_, fun w' hS' => get_load rfl rfl ((HOt.out.next hS').h.read zH.out), ?_⟩
        try go_simp
        refine hK _ ?_
        clear hK K
        refine wpFk_get rfl (by rfl) (fun K hK => ?_)
        refine ⟨?_, fun w' hS' => ?_, ?_⟩
        rotate_left
        · go_simp
          try (with_reducible rfl)
        try go_simp
        refine hK _ ?_
        clear hK K
        refine wpFk_get rfl (by rfl) (fun K hK => ?_)
        refine ⟨?_, fun w' hS' => ?_, ?_⟩
        rotate_left
        · go_simp
          try (with_reducible rfl)
        try go_simp
        refine hK _ ?_
        clear hK K
        refine wpFk_get rfl (by rfl) (fun K hK => ?_)
        refine ⟨?_, fun w' hS' => ?_, ?_⟩
        rotate_left
        · go_simp
          try (with_reducible rfl)
        try go_simp
        refine hK _ ?_
        clear hK K
        refine wpFk_get rfl (by rfl) (fun K hK => ?_)
        refine ⟨_, fun w' hS' => get_load rfl rfl (RX.out _ (HOt.out.next hS')), ?_⟩
        try go_simp
        refine hK _ ?_
        clear hK K
        refine wpFk_get rfl (by rfl) (fun K hK => ?_)
        refine ⟨_, fun w' hS' => get_neqH rfl rfl rfl (N1.out _), ?_⟩
        try go_simp
        refine hK _ ?_
        clear hK K
        refine wpFk_get rfl (by rfl) (fun K hK => ?_)
        refine ⟨?_, fun w' hS' => ?_, ?_⟩
        rotate_left
        · go_simp
          try (with_reducible rfl)
        try go_simp
        refine hK _ ?_
        clear hK K
        refine wpFk_get rfl (by rfl) (fun K hK => ?_)
        refine ⟨_, fun w' hS' => get_load rfl rfl ((HOt.out.next hS').h.read zH.out), ?_⟩
        try go_simp
        refine hK _ ?_
        clear hK K
        refine wpFk_get rfl (by rfl) (fun K hK => ?_)
        refine ⟨?_, fun w' hS' => ?_, ?_⟩
        rotate_left
        · go_simp
          try (with_reducible rfl)
        try go_simp
        refine hK _ ?_
        clear hK K
        refine wpFk_get rfl (by rfl) (fun K hK => ?_)
        refine ⟨?_, fun w' hS' => ?_, ?_⟩
        rotate_left
        · go_simp
          try (with_reducible rfl)
        try go_simp
        refine hK _ ?_
        clear hK K
        refine wpFk_get rfl (by rfl) (fun K hK => ?_)
        refine ⟨?_, fun w' hS' => ?_, ?_⟩
        rotate_left
        · go_simp
          try (with_reducible rfl)
        try go_simp
        refine hK _ ?_
        clear hK K
        refine wpFk_get rfl (by rfl) (fun K hK => ?_)
        refine ⟨_, fun w' hS' => get_load rfl rfl ((HOt.out.next hS').rt.read zR.out), ?_⟩
        try go_simp
        refine hK _ ?_
        clear hK K
        refine wpFk_call rfl (by rfl) (fun K hK => ?_)
        go_simp
        go_at_call 35
        refine (C1r.out _ (HOt.out.next HS.out)).mono ?_
        rintro e w2x ⟨rfl, hb⟩
        replace HS := Lib.hid (below_new HS.out hb)
        clear hb
        refine hK _ _ HS.out ?_
        clear hK K
        refine wpFk_get rfl (by rfl) (fun K hK => ?_)
        refine ⟨?_, fun w' hS' => ?_, ?_⟩
        rotate_left
        · go_simp
          try (with_reducible rfl)
        try go_simp
        refine hK _ ?_
        clear hK K
        refine wpFk_get rfl (by rfl) (fun K hK => ?_)
        refine ⟨?_, fun w' hS' => ?_, ?_⟩
        rotate_left
        · go_simp
          try (with_reducible rfl)
        try go_simp
        refine hK _ ?_
        clear hK K
        refine wpFk_get rfl (by rfl) (fun K hK => ?_)
        refine ⟨?_, fun w' hS' => ?_, ?_⟩
        rotate_left
        · go_simp
          try (with_reducible rfl)
        try go_simp
        refine hK _ ?_
        clear hK K
        refine wpFk_get rfl (by rfl) (fun K hK => ?_)
        refine ⟨_, fun w' hS' => get_load rfl rfl ((HOt.out.next hS').h.read zH.out), ?_⟩
        try go_simp
        refine hK _ ?_
        clear hK K
        refine wpFk_get rfl (by rfl) (fun K hK => ?_)
        refine ⟨_, fun w' hS' => get_load rfl rfl ((HOt.out.next hS').rt.read zR.out), ?_⟩
        try go_simp
        refine hK _ ?_
        clear hK K
        refine wpFk_get rfl (by rfl) (fun K hK => ?_)
        refine ⟨_, fun w' hS' => get_neqH rfl rfl rfl (N2.out _), ?_⟩
        try go_simp
        refine hK _ ?_
        clear hK K
        refine wpFk_get rfl (by rfl) (fun K hK => ?_)
        refine ⟨?_, fun w' hS' => ?_, ?_⟩
        rotate_left
        · go_simp
          try (with_reducible rfl)
        try go_simp
        refine hK _ ?_
        clear hK K
        refine wpFk_get rfl (by rfl) (fun K hK => ?_)
        refine ⟨?_, fun w' hS' => ?_, ?_⟩
        rotate_left
        · go_simp
          try (with_reducible rfl)
        try go_simp
        refine hK _ ?_
        clear hK K
        refine wpFk_get rfl (by rfl) (fun K hK => ?_)
        refine ⟨?_, fun w' hS' => ?_, ?_⟩
        rotate_left
        · go_simp
          try (with_reducible rfl)
        try go_simp
        refine hK _ ?_
        clear hK K
        refine wpFk_get rfl (by rfl) (fun K hK => ?_)
        refine ⟨?_, fun w' hS' => ?_, ?_⟩
        rotate_left
        · go_simp
          try (with_reducible rfl)
        try go_simp
        refine hK _ ?_
        clear hK K
        refine wpFk_get rfl (by rfl) (fun K hK => ?_)
        refine ⟨_, fun w' hS' => get_load rfl rfl (RX.out _ (HOt.out.next hS')), ?_⟩
        try go_simp
        refine hK _ ?_
        clear hK K
        refine wpFk_get rfl (by rfl) (fun K hK => ?_)
        refine ⟨?_, fun w' hS' => ?_, ?_⟩
        rotate_left
        · go_simp
          try (with_reducible rfl)
        try go_simp
        refine hK _ ?_
        clear hK K
        refine wpFk_get rfl (by rfl) (fun K hK => ?_)
        refine ⟨?_, fun w' hS' => ?_, ?_⟩
        rotate_left
        · go_simp
          try (with_reducible rfl)
        try go_simp
        refine hK _ ?_
        clear hK K
        refine wpFk_get rfl (by rfl) (fun K hK => ?_)
        refine ⟨?_, fun w' hS' => ?_, ?_⟩
        rotate_left
        · go_simp
          try (with_reducible rfl)
        try go_simp
        refine hK _ ?_
        clear hK K
        refine wpFk_get rfl (by rfl) (fun K hK => ?_)
        refine ⟨_, fun w' hS' => get_load rfl rfl ((HOt.out.next hS').h.read zH.out), ?_⟩
        try go_simp
        refine hK _ ?_
        clear hK K
        refine wpFk_call rfl (by rfl) (fun K hK => ?_)
        go_simp
        go_at_call 35
        refine (C2r.out _ (HOt.out.next HS.out)).mono ?_
        rintro e w2x ⟨rfl, hb⟩
        replace HS := Lib.hid (below_new HS.out hb)
        clear hb
        refine hK _ _ HS.out ?_
        clear hK K
        refine wpFk_get rfl (by rfl) (fun K hK => ?_)
        refine ⟨?_, fun w' hS' => ?_, ?_⟩
        rotate_left
        · go_simp
          try (with_reducible rfl)
        try go_simp
        refine hK _ ?_
        clear hK K
        refine wpFk_get rfl (by rfl) (fun K hK => ?_)
        refine ⟨?_, fun w' hS' => ?_, ?_⟩
        rotate_left
        · go_simp
          try (with_reducible rfl)
        try go_simp
        refine hK _ ?_
        clear hK K
        refine wpFk_get rfl (by rfl) (fun K hK => ?_)
        refine ⟨?_, fun w' hS' => ?_, ?_⟩
        rotate_left
        · go_simp
          try (with_reducible rfl)
        try go_simp
        refine hK _ ?_
        clear hK K
        refine wpFk_done ?_
        refine HQ.out _ _ ?_
        go_wp2
        go_meet
        case rel => exact ⟨rfl, Lib.hid (HOt.out.next HS.out)⟩
  case rest =>
    obtain ⟨rfl, HOt⟩ := hcut
    go_upto_region 8 with fail
    refine wp_region_fk (Below wc.heap.size wc) (.get 0 (.get 1 (.get 2 (.get 3 (.get 4 (.get 5 (.get 6 (.get 7 (.get 10 (.get 11 (.get 12 (.get 13 (.get 14 (.get 15 (.call 8 (.get 9 (.get 16 (.get 17 (.get 18 (.get 19 (.get 20 (.get 21 (.get 22 (.get 23 (.get 24 (.get 25 (.get 26 (.get 29 (.get 30 (.get 31 (.call 27 (.get 28 (.get 32 (.get 33 .done)))))))))))))))))))))))))))))))))) (by kernel_rfl) rfl (by kernel_rfl) (by kernel_rfl) (by intro c a d v w h; cases d <;> exact h) (Below.refl wc.heap.size wc).drew (fun Q' hQ => ?_)
    have HS := Lib.hid (Below.refl wc.heap.size wc).drew
    have HQ := Lib.hid hQ
    clear hQ
    refine wpFk_get rfl (by rfl) (fun K hK => ?_)
    refine ⟨?_, fun w' hS' => ?_, ?_⟩
    rotate_left
    · go_simp
      try (with_reducible rfl)
    try go_simp
    refine hK _ ?_
    clear hK K
    refine wpFk_get rfl (by rfl) (fun K hK => ?_)
    refine ⟨?_, fun w' hS' => ?_, ?_⟩
    rotate_left
    · go_simp
      try (with_reducible rfl)
    try go_simp
    refine hK _ ?_
    clear hK K
    refine wpFk_get rfl (by rfl) (fun K hK => ?_)
    refine ⟨?_, fun w' hS' => ?_, ?_⟩
    rotate_left
    · go_simp
      try (with_reducible rfl)
    try go_simp
    refine hK _ ?_
    clear hK K
    refine wpFk_get rfl (by rfl) (fun K hK => ?_)
    refine ⟨_, fun w' hS' => get_load rfl rfl ((HOt.out.next hS').h.read zH.out), ?_⟩
    try go_simp
    refine hK _ ?_
    clear hK K
    refine wpFk_get rfl (by rfl) (fun K hK => ?_)
    refine ⟨?_, fun w' hS' => ?_, ?_⟩
    rotate_left
    · go_simp
      try (with_reducible rfl)
    try go_simp
    refine hK _ ?_
    clear hK K
    refine wpFk_get rfl (by rfl) (fun K hK => ?_)
    refine ⟨?_, fun w' hS' => ?_, ?_⟩
    rotate_left
    · go_simp
      try (with_reducible rfl)
    try go_simp
    refine hK _ ?_
    clear hK K
    refine wpFk_get rfl (by rfl) (fun K hK => ?_)
    refine ⟨?_, fun w' hS' => ?_, ?_⟩
    rotate_left
    · go_simp
      try (with_reducible rfl)
    try go_simp
    refine hK _ ?_
    clear hK K
    refine wpFk_get rfl (by rfl) (fun K hK => ?_)
    refine ⟨_, fun w' hS' => get_load rfl rfl ((HOt.out.next hS').rt.read zR.out), ?_⟩
    try go_simp
    refine hK _ ?_
    clear hK K
    refine wpFk_get rfl (by rfl) (fun K hK => ?_)
    refine ⟨_, fun w' hS' => get_load rfl rfl ((HOt.out.next hS').h.read zH.out), ?_⟩
    try go_simp
    refine hK _ ?_
    clear hK K
    refine wpFk_get rfl (by rfl) (fun K hK => ?_)
    refine ⟨?_, fun w' hS' => ?_, ?_⟩
    rotate_left
    · go_simp
      try (with_reducible rfl)
    try go_simp
    refine hK _ ?_
    clear hK K
    refine wpFk_get rfl (by rfl) (fun K hK => ?_)
    refine ⟨?_, fun w' hS' => ?_, ?_⟩
    rotate_left
    · go_simp
      try (with_reducible rfl)
    try go_simp
    refine hK _ ?_
    clear hK K
    refine wpFk_get rfl (by rfl) (fun K hK => ?_)
    refine ⟨?_, fun w' hS' => ?_, ?_⟩
    rotate_left
    · go_simp
      try (with_reducible rfl)
    try go_simp
    refine hK _ ?_
    clear hK K
    refine wpFk_get rfl (by rfl) (fun K hK => ?_)
    refine ⟨_, fun w' hS' => get_load rfl rfl (RX.out _ (HOt.out.next hS')), ?_⟩
    try go_simp
    refine hK _ ?_
    clear hK K
    refine wpFk_get rfl (by rfl) (fun K hK => ?_)
    refine ⟨_, fun w' hS' => get_eqH rfl rfl rfl (T1.out _), ?_⟩
    try go_simp
    refine hK _ ?_
    clear hK K
    refine wpFk_call rfl (by rfl) (fun K hK => ?_)
    go_simp
    go_at_call 34
    refine (C1p.out _ (HOt.out.next HS.out)).mono ?_
    rintro e w2x ⟨rfl, hb⟩
    replace HS := Lib.hid (below_new HS.out hb)
    clear hb
    refine hK _ _ HS.out ?_
    clear hK K
    refine wpFk_get rfl (by rfl) (fun K hK => ?_)
    refine ⟨?_, fun w' hS' => ?_, ?_⟩
    rotate_left
    · go_simp
      try (with_reducible rfl)
    try go_simp
    refine hK _ ?_
    clear hK K
    refine wpFk_get rfl (by rfl) (fun K hK => ?_)
    refine ⟨?_, fun w' hS' => ?_, ?_⟩
    rotate_left
    · go_simp
      try (with_reducible rfl)
    try go_simp
    refine hK _ ?_
    clear hK K
    refine wpFk_get rfl (by rfl) (fun K hK => ?_)
    refine ⟨?_, fun w' hS' => ?_, ?_⟩
    rotate_left
    · go_simp
      try (with_reducible rfl)
    try go_simp
    refine hK _ ?_
    clear hK K
    refine wpFk_get rfl (by rfl) (fun K hK => ?_)
    refine ⟨?_, fun w' hS' => ?_, ?_⟩
    rotate_left
    · go_simp
      try (with_reducible rfl)
    try go_simp
    refine hK _ ?_
    clear hK K
    refine wpFk_get rfl (by rfl) (fun K hK => ?_)
    refine ⟨?_, fun w' hS' => ?_, ?_⟩
    rotate_left
    · go_simp
      try (with_reducible rfl)
    try go_simp
    refine hK _ ?_
    clear hK K
    refine wpFk_get rfl (by rfl) (fun K hK => ?_)
    refine ⟨?_, fun w' hS' => ?_, ?_⟩
    rotate_left
    · go_simp
      try (with_reducible rfl)
    try go_simp
    refine hK _ ?_
    clear hK K
    refine wpFk_get rfl (by rfl) (fun K hK => ?_)
    refine ⟨?_, fun w' hS' => ?_, ?_⟩
    rotate_left
    · go_simp
      try (with_reducible rfl)
    try go_simp
    refine hK _ ?_
    clear hK K
    refine wpFk_get rfl (by rfl) (fun K hK => ?_)
    refine ⟨_, fun w' hS' => get_load rfl rfl (RX.out _ (HOt.out.next hS')), ?_⟩
    try go_simp
    refine hK _ ?_
    clear hK K
    refine wpFk_get rfl (by rfl) (fun K hK => ?_)
    refine ⟨?_, fun w' hS' => ?_, ?_⟩
    rotate_left
    · go_simp
      try (with_reducible rfl)
    try go_simp
    refine hK _ ?_
    clear hK K
    refine wpFk_get rfl (by rfl) (fun K hK => ?_)
    refine ⟨?_, fun w' hS' => ?_, ?_⟩
    rotate_left
    · go_simp
      try (with_reducible rfl)
    try go_simp
    refine hK _ ?_
    clear hK K
    refine wpFk_get rfl (by rfl) (fun K hK => ?_)
    refine ⟨?_, fun w' hS' => ?_, ?_⟩
    rotate_left
    · go_simp
      try (with_reducible rfl)
    try go_simp
    refine hK _ ?_
    clear hK K
    refine wpFk_get rfl (by rfl) (fun K hK => ?_)
    refine ⟨_, fun w' hS' => get_load rfl rfl ((HOt.out.next hS').h.read zH.out), ?_⟩
    try go_simp
    refine hK _ ?_
    clear hK K
    refine wpFk_get rfl (by rfl) (fun K hK => ?_)
    refine ⟨_, fun w' hS' => get_load rfl rfl ((HOt.out.next hS').h.read zH.out), ?_⟩
    try go_simp
    refine hK _ ?_
    clear hK K
    refine wpFk_get rfl (by rfl) (fun K hK => ?_)
    refine ⟨_, fun w' hS' => get_load rfl rfl ((HOt.out.next hS').rt.read zR.out), ?_⟩
    try go_simp
    refine hK _ ?_
    clear hK K
    refine wpFk_get rfl (by rfl) (fun K hK => ?_)
    refine ⟨_, fun w' hS' => get_eqH rfl rfl rfl (T2.out _), ?_⟩
    try go_simp
    refine hK _ ?_
    clear hK K
    refine wpFk_call rfl (by rfl) (fun K hK => ?_)
    go_simp
    go_at_call 34
    refine (C2p.out _ (HOt.out.next HS.out)).mono ?_
    rintro e w2x ⟨rfl, hb⟩
    replace HS := Lib.hid (below_new HS.out hb)
    clear hb
    refine hK _ _ HS.out ?_
    clear hK K
    refine wpFk_get rfl (by rfl) (fun K hK => ?_)
    refine ⟨?_, fun w' hS' => ?_, ?_⟩
    rotate_left
    · go_simp
      try (with_reducible rfl)
    try go_simp
    refine hK _ ?_
    clear hK K
    refine wpFk_get rfl (by rfl) (fun K hK => ?_)
    refine ⟨?_, fun w' hS' => ?_, ?_⟩
    rotate_left
    · go_simp
      try (with_reducible rfl)
    try go_simp
    refine hK _ ?_
    clear hK K
    refine wpFk_get rfl (by rfl) (fun K hK => ?_)
    refine ⟨?_, fun w' hS' => ?_, ?_⟩
    rotate_left
    · go_simp
      try (with_reducible rfl)
    try go_simp
    refine hK _ ?_
    clear hK K
    refine wpFk_done ?_
    refine HQ.out _ _ ?_
    go_wp2
    have H8 := Lib.hid (HOt.out.next HS.out)
    clear HOt HS HQ f1 f2 T1 T1n T2 T2n C1p C1r C2p C2r
    go_loopw [13] (fun s13 wr => ∃ k : Nat, s13 = .int .i64 (k : Int) ∧ k ≤ q ∧ Hid (OtH w g10 g H R Ap ls P wr)) (fun s13 _ => (q - intOf s13).toNat)
    case atStart => exact ⟨0, rfl, by omega, H8⟩
    case round =>
      clear H8
      obtain ⟨k, rfl, hkq, HO⟩ := hrel
      by_cases hlt : k < q
      · have d5 : (k : Int) < (q : Int) := by omega
        have hkl : k < P.length := by rw [← hq.out]; exact hlt
        have hwk : IntKind.i64.wrap (k : Int) = (k : Int) := by rw [IntKind.wrap_i64]; omega
        obtain ⟨pd, rfl⟩ := HO.out.path.some k hkl
        obtain ⟨y, hy⟩ : ∃ y, Hid (y = P.getD k []) := ⟨_, Lib.hid rfl⟩
        obtain ⟨Y, hY⟩ : ∃ Y, Hid (Y = nums .u8 y) := ⟨_, Lib.hid rfl⟩
        have hy32 : Hid (y.length = 32 ∧ bytes y) := Lib.hid (by rw [hy.out]; exact hashes_at hPh.out k hkl)
        have hqsm : Hid (q ≤ 8192) := Lib.hid (by omega)
        have HO2 := Lib.hid HO.out.path
        go_upto_region 14 with (at_builtin; refine wpList_appendC rfl (.const (.slice none 0 0)) (.tmp 108) rfl wr.heap.size P rfl (some pd) q cp rfl hq.out hPh.out HO2.out hqsm.out (Nat.le_refl _) ?_; intro v1 w5 ho hg; have HOwn := Lib.hid ho; have HB5 : Hid (Below wr.heap.size wr w5) := Lib.hid ((Below.refl _ _).grown hg (Nat.le_refl _) (by intro k hk; simp at hk)); clear ho hg)
        obtain ⟨g2, c2, rfl, hg2⟩ : ∃ g2 c2, v1 = .slice (some ⟨g2, 0, none⟩) q c2 ∧ Hid ((q ≤ c2 ∧ c2 ≤ maxLen) ∧ wr.heap.size ≤ g2 ∧ w5.there g2 (k * 32) 32 ∧ HW w5 (some ⟨g2, 0, none⟩) P) := by
          obtain ⟨A, c2, e⟩ := own_form HOwn.out
          have hs := own_some (by have := HOwn.out; rw [e] at this; exact this)
          rcases hs.2.2 with ⟨_, h0⟩ | ⟨g2, rfl, h1, h2⟩
          · omega
          · have ho := HOwn.out
            rw [e] at ho
            exact ⟨g2, c2, e, Lib.hid ⟨⟨hs.1, by have := hs.2.1; unfold maxLen; omega⟩, h1, own_room ho k hlt, by rw [hq.out] at ho; exact own_HL ho hPh.out⟩⟩
        have hc2 : q ≤ c2 := hg2.out.1.1
        have HO5 := Lib.hid (HO.out.next HB5.out)
        have s1 : (readAt (.pointer (some ⟨w.heap.size, 0, none⟩))).run Tryd.prog w5 = .ok (.agg H) w5 := HO5.out.h.read zH.out
        have ht : w5.there g2 (k * 32) H.size := by rw [zH.out]; exact hg2.out.2.2.1
        have h6 := sizeH H.size zH.out
        have HPs : Hid (HL (w5.setCells g2 (k * 32) H.toList) w5.heap.size (some ⟨g2, 0, none⟩) (P.set k h)) := Lib.hid (by rw [hH.out]; exact HL.set hg2.out.2.2.2 k hkl h HH32.out.1 hg2.out.2.2.1)
        have HBs : Hid (Below wr.heap.size w5 (w5.setCells g2 (k * 32) H.toList)) := Lib.hid (below_setCells_w hg2.out.2.1 _ _ _)
        have HZs : Hid ((w5.setCells g2 (k * 32) H.toList).heap.size = w5.heap.size) := Lib.hid (size_setCells _ _ _ _)
        go_upto_region 15 with (first
          | (refine wpList_store_mid rfl 31 _ _ rfl g2 (k * 32) H rfl rfl ht h6 oH.out ?_)
          | (refine wpList_store_at rfl 31 _ _ rfl g2 (k * 32) H rfl rfl ht h6 oH.out ?_))
        refine world_gen (fun W => OtH w g10 g H R (some pd) ls P W ∧ HW W (some ⟨g2, 0, none⟩) (P.set k h)) ⟨HO.out.next (HB5.out.trans HBs.out), by unfold HW; rw [HZs.out]; exact HPs.out⟩ (fun w6 H6 => ?_)
        clear s1 ht h6 HPs HBs HZs HO5 HOwn HB5 HO HO2
        have HQs := Lib.hid H6.2
        have HOt := Lib.hid H6.1
        have hG2 := Lib.hid hg2.out.1
        clear hg2 H6
        have hPs : Hid (hashes (P.set k h) ∧ (P.set k h).length = q) := Lib.hid ⟨setL_hashes hPh.out k h HH32.out, by rw [List.length_set, ← hq.out]⟩
        obtain ⟨E3, hE3⟩ : ∃ E, Hid (E = checkF x (i : Int) (m : Int) (P.set k h) rt) := ⟨_, Lib.hid rfl⟩
        have C3p : Hid (∀ W, Below w6.heap.size w6 W → Calls Tryd.prog 34 #[.agg X, .int .i64 (i : Int), .int .i64 (m : Int), .slice (some ⟨g2, 0, none⟩) q c2, .agg R] W fun e w' => e = .returned (.int .i64 E3) ∧ Below W.heap.size W w') := Lib.hid fun W hW => by
          rw [hE3.out]; exact CP.out W _ c2 i x rt (P.set k h) X R (HQs.out.next hW) (HOt.out.next hW).tab hPs.out.1 hPs.out.2 (by omega) hG2.out hX.out hR.out HX32.out HR32.out
        have C3r : Hid (∀ W, Below w6.heap.size w6 W → Calls Tryd.prog 35 #[.agg X, .int .i64 (i : Int), .int .i64 (m : Int), .slice (some ⟨g2, 0, none⟩) q c2, .agg R] W fun e w' => e = .returned (.int .i64 E3) ∧ Below W.heap.size W w') := Lib.hid fun W hW => by
          rw [hE3.out]; exact CR.out W _ c2 i x rt (P.set k h) X R (HQs.out.next hW) hPs.out.1 hPs.out.2 (by omega) hG2.out hX.out hR.out HX32.out HR32.out
        have RY : Hid (∀ W, Below w6.heap.size w6 W → (readAt (.pointer (some (pd.add (k * 32))))).run Tryd.prog W = .ok (.agg Y) W) := Lib.hid fun W hW => by
          rw [hY.out, hy.out]; exact HL.read (HOt.out.next hW).path hPh.out k hkl
        obtain ⟨b3, hb3⟩ : ∃ b : Bool, b = decide (h = y) := ⟨_, rfl⟩
        obtain ⟨T3, T3n⟩ := eq_three h y H Y hH hY HH32.out hy32.out b3 hb3
        have T3 := Lib.hid T3
        have T3n := Lib.hid T3n
        have K3 : Hid (h = y → E3 = 0) := Lib.hid fun e => by
          rw [hE3.out, show P.set k h = P by rw [e, hy.out, List.getD_eq_getElem?_getD, List.getElem?_eq_getElem hkl]; exact List.set_getElem_self hkl]
          exact KF.out
        clear hkl
        by_cases hA : b3 = false ∧ E3 = 0
        · obtain ⟨rfl, hA2⟩ := hA
          subst hA2
          have N3 : Hid (∀ W, (neqAt (.agg H) (.agg Y)).run Tryd.prog W = .ok (.bool true) W) := T3n
          clear hb3
          refine wp_region_fk (Below w6.heap.size w6) (.get 0 (.get 1 (.get 2 (.get 3 (.get 4 (.get 5 (.get 6 (.get 7 (.get 8 (.get 9 (.get 10 (.get 11 (.get 12 (.get 13 (.get 14 (.call 15 (.get 16 (.get 17 .done)))))))))))))))))) (by kernel_rfl) rfl (by kernel_rfl) (by kernel_rfl) (by intro c a d v w h; cases d <;> exact h) (Below.refl w6.heap.size w6).drew (fun Q' hQ => ?_)
          have HS := Lib.hid (Below.refl w6.heap.size w6).drew
          have HQ := Lib.hid hQ
          clear hQ
          refine wpFk_get rfl (by rfl) (fun K hK => ?_)
          refine ⟨_, fun w' hS' => get_load rfl rfl ((HOt.out.next hS').h.read zH.out), ?_⟩
          try go_simp
          refine hK _ ?_
          clear hK K
          refine wpFk_get rfl (by rfl) (fun K hK => ?_)
          refine ⟨?_, fun w' hS' => ?_, ?_⟩
          rotate_left
          · go_simp
            try (with_reducible rfl)
          try go_simp
          refine hK _ ?_
          clear hK K
          refine wpFk_get rfl (by rfl) (fun K hK => ?_)
          refine ⟨?_, fun w' hS' => ?_, ?_⟩
          rotate_left
          · go_simp
            try (with_reducible rfl)
          try go_simp
          refine hK _ ?_
          clear hK K
          refine wpFk_get rfl (by rfl) (fun K hK => ?_)
          refine ⟨?_, fun w' hS' => ?_, ?_⟩
          rotate_left
          · go_simp
            try (with_reducible rfl)
          try go_simp
          refine hK _ ?_
          clear hK K
          refine wpFk_get rfl (by rfl) (fun K hK => ?_)
          refine ⟨_, fun w' hS' => get_load rfl rfl (RY.out _ hS'), ?_⟩
          try go_simp
          refine hK _ ?_
          clear hK K
          refine wpFk_get rfl (by rfl) (fun K hK => ?_)
          refine ⟨_, fun w' hS' => get_neqH rfl rfl rfl (N3.out _), ?_⟩
          try go_simp
          refine hK _ ?_
          clear hK K
          refine wpFk_get rfl (by rfl) (fun K hK => ?_)
          refine ⟨?_, fun w' hS' => ?_, ?_⟩
          rotate_left
          · go_simp
            try (with_reducible rfl)
          try go_simp
          refine hK _ ?_
          clear hK K
          refine wpFk_get rfl (by rfl) (fun K hK => ?_)
          refine ⟨?_, fun w' hS' => ?_, ?_⟩
          rotate_left
          · go_simp
            try (with_reducible rfl)
          try go_simp
          refine hK _ ?_
          clear hK K
          refine wpFk_get rfl (by rfl) (fun K hK => ?_)
          refine ⟨?_, fun w' hS' => ?_, ?_⟩
          rotate_left
          · go_simp
            try (with_reducible rfl)
          try go_simp
          refine hK _ ?_
          clear hK K
          refine wpFk_get rfl (by rfl) (fun K hK => ?_)
          refine ⟨?_, fun w' hS' => ?_, ?_⟩
          rotate_left
          · go_simp
            try (with_reducible rfl)
          try go_simp
          refine hK _ ?_
          clear hK K
          refine wpFk_get rfl (by rfl) (fun K hK => ?_)
          refine ⟨_, fun w' hS' => get_load rfl rfl (RX.out _ (HOt.out.next hS')), ?_⟩
          try go_simp
          refine hK _ ?_
          clear hK K
          refine wpFk_get rfl (by rfl) (fun K hK => ?_)
          refine ⟨?_, fun w' hS' => ?_, ?_⟩
          rotate_left
          · go_simp
            try (with_reducible rfl)
          try go_simp
          refine hK _ ?_
          clear hK K
          refine wpFk_get rfl (by rfl) (fun K hK => ?_)
          refine ⟨?_, fun w' hS' => ?_, ?_⟩
          rotate_left
          · go_simp
            try (with_reducible rfl)
          try go_simp
          refine hK _ ?_
          clear hK K
          refine wpFk_get rfl (by rfl) (fun K hK => ?_)
          refine ⟨?_, fun w' hS' => ?_, ?_⟩
          rotate_left
          · go_simp
            try (with_reducible rfl)
          try go_simp
          refine hK _ ?_
          clear hK K
          refine wpFk_get rfl (by rfl) (fun K hK => ?_)
          refine ⟨_, fun w' hS' => get_load rfl rfl ((HOt.out.next hS').rt.read zR.out), ?_⟩
          try go_simp
          refine hK _ ?_
          clear hK K
          refine wpFk_call rfl (by rfl) (fun K hK => ?_)
          go_simp
          go_at_call 35
          refine (C3r.out _ HS.out).mono ?_
          rintro e w2x ⟨rfl, hb⟩
          replace HS := Lib.hid (below_new HS.out hb)
          clear hb
          refine hK _ _ HS.out ?_
          clear hK K
          refine wpFk_get rfl (by rfl) (fun K hK => ?_)
          refine ⟨?_, fun w' hS' => ?_, ?_⟩
          rotate_left
          · go_simp
            try (with_reducible rfl)
          try go_simp
          refine hK _ ?_
          clear hK K
          refine wpFk_get rfl (by rfl) (fun K hK => ?_)
          refine ⟨?_, fun w' hS' => ?_, ?_⟩
          rotate_left
          · go_simp
            try (with_reducible rfl)
          try go_simp
          refine hK _ ?_
          clear hK K
          refine wpFk_done ?_
          refine HQ.out _ _ ?_
          have HTB := Lib.hid (HOt.out.next HS.out).tab
          have HBB := Lib.hid (HOt.out.next HS.out).below
          go_wp2_with (go_at_call 31; (with_reducible refine (found_any _ HTB.out).mono ?_); rintro e w9 ⟨rfl, hb⟩; have HB9 := Lib.hid (below_new HBB.out hb); clear hb)
          go_ret
          exact ⟨rfl, HB9.out⟩
        have f3 : (E3 == 0) = b3 := by
          cases b3 with
          | true => rw [K3.out (of_decide_eq_true hb3.symm)]; rfl
          | false => simpa using fun e => hA ⟨rfl, e⟩
        clear hA hb3
        simp only [Act.put]
        go_cut [131] (fun s131 wx => s131 = .bool false ∧ Hid (OtH w g10 g H R (some pd) ls P wx ∧ Below w6.heap.size w6 wx))
        case first =>
          cases b3 with
          | true =>
            have N3 : Hid (∀ W, (neqAt (.agg H) (.agg Y)).run Tryd.prog W = .ok (.bool false) W) := T3n
            refine wp_region_fk (Below w6.heap.size w6) (.get 0 (.get 1 (.get 2 (.get 3 (.get 4 (.get 5 (.get 6 (.get 7 (.get 8 (.get 9 (.get 10 (.get 11 (.get 12 (.get 13 (.get 14 (.get 15 (.get 16 (.get 17 .done)))))))))))))))))) (by kernel_rfl) rfl (by kernel_rfl) (by kernel_rfl) (by intro c a d v w h; cases d <;> exact h) (Below.refl w6.heap.size w6).drew (fun Q' hQ => ?_)
            have HS := Lib.hid (Below.refl w6.heap.size w6).drew
            have HQ := Lib.hid hQ
            clear hQ
            refine wpFk_get rfl (by rfl) (fun K hK => ?_)
            refine ⟨_, fun w' hS' => get_load rfl rfl ((HOt.out.next hS').h.read zH.out), ?_⟩
            try go_simp
            refine hK _ ?_
            clear hK K
            refine wpFk_get rfl (by rfl) (fun K hK => ?_)
            refine ⟨?_, fun w' hS' => ?_, ?_⟩
            rotate_left
            · go_simp
              try (with_reducible rfl)
            try go_simp
            refine hK _ ?_
            clear hK K
            refine wpFk_get rfl (by rfl) (fun K hK => ?_)
            refine ⟨?_, fun w' hS' => ?_, ?_⟩
            rotate_left
            · go_simp
              try (with_reducible rfl)
            try go_simp
            refine hK _ ?_
            clear hK K
            refine wpFk_get rfl (by rfl) (fun K hK => ?_)
            refine ⟨?_, fun w' hS' => ?_, ?_⟩
            rotate_left
            · go_simp
              try (with_reducible rfl)
            try go_simp
            refine hK _ ?_
            clear hK K
            refine wpFk_get rfl (by rfl) (fun K hK => ?_)
            refine ⟨_, fun w' hS' => get_load rfl rfl (RY.out _ hS'), ?_⟩
            try go_simp
            refine hK _ ?_
            clear hK K
            refine wpFk_get rfl (by rfl) (fun K hK => ?_)
            refine ⟨_, fun w' hS' => get_neqH rfl rfl rfl (N3.out _), ?_⟩
            try go_simp
            refine hK _ ?_
            clear hK K
            refine wpFk_get rfl (by rfl) (fun K hK => ?_)
            refine ⟨?_, fun w' hS' => ?_, ?_⟩
            rotate_left
            · go_simp
              try (with_reducible rfl)
            try go_simp
            refine hK _ ?_
            clear hK K
            refine wpFk_skip rfl (by rfl) (fun K hK => ?_)
            try go_simp
            refine hK _ ?_
            clear hK K
            refine wpFk_skip rfl (by rfl) (fun K hK => ?_)
            try go_simp
            refine hK _ ?_
            clear hK K
            refine wpFk_skip rfl (by rfl) (fun K hK => ?_)
            try go_simp
            refine hK _ ?_
            clear hK K
            refine wpFk_skip rfl (by rfl) (fun K hK => ?_)
            try go_simp
            refine hK _ ?_
            clear hK K
            refine wpFk_skip rfl (by rfl) (fun K hK => ?_)
            try go_simp
            refine hK _ ?_
            clear hK K
            refine wpFk_skip rfl (by rfl) (fun K hK => ?_)
            try go_simp
            refine hK _ ?_
            clear hK K
            refine wpFk_skip rfl (by rfl) (fun K hK => ?_)
            try go_simp
            refine hK _ ?_
            clear hK K
            refine wpFk_skip rfl (by rfl) (fun K hK => ?_)
            try go_simp
            refine hK _ ?_
            clear hK K
            refine wpFk_skip rfl (by rfl) (fun K hK => ?_)
            try go_simp
            refine hK _ ?_
            clear hK K
            refine wpFk_skip rfl (by rfl) (fun K hK => ?_)
            try go_simp
            refine hK _ ?_
            clear hK K
            refine wpFk_get rfl (by rfl) (fun K hK => ?_)
            refine ⟨?_, fun w' hS' => ?_, ?_⟩
            rotate_left
            · go_simp
              try (with_reducible rfl)
            try go_simp
            refine hK _ ?_
            clear hK K
            refine wpFk_done ?_
            refine HQ.out _ _ ?_
            go_wp2
            go_meet
            case rel => exact ⟨rfl, Lib.hid ⟨HOt.out.next HS.out, HS.out⟩⟩
          | false =>
            have N3 : Hid (∀ W, (neqAt (.agg H) (.agg Y)).run Tryd.prog W = .ok (.bool true) W) := T3n
            refine wp_region_fk (Below w6.heap.size w6) (.get 0 (.get 1 (.get 2 (.get 3 (.get 4 (.get 5 (.get 6 (.get 7 (.get 8 (.get 9 (.get 10 (.get 11 (.get 12 (.get 13 (.get 14 (.call 15 (.get 16 (.get 17 .done)))))))))))))))))) (by kernel_rfl) rfl (by kernel_rfl) (by kernel_rfl) (by intro c a d v w h; cases d <;> exact h) (Below.refl w6.heap.size w6).drew (fun Q' hQ => ?_)
            have HS := Lib.hid (Below.refl w6.heap.size w6).drew
            have HQ := Lib.hid hQ
            clear hQ
            refine wpFk_get rfl (by rfl) (fun K hK => ?_)
            refine ⟨_, fun w' hS' => get_load rfl rfl ((HOt.out.next hS').h.read zH.out), ?_⟩
            try go_simp
            refine hK _ ?_
            clear hK K
            refine wpFk_get rfl (by rfl) (fun K hK => ?_)
            refine ⟨?_, fun w' hS' => ?_, ?_⟩
            rotate_left
            · go_simp
              try (with_reducible rfl)
            try go_simp
            refine hK _ ?_
            clear hK K
            refine wpFk_get rfl (by rfl) (fun K hK => ?_)
            refine ⟨?_, fun w' hS' => ?_, ?_⟩
            rotate_left
            · go_simp
              try (with_reducible rfl)
            try go_simp
            refine hK _ ?_
            clear hK K
            refine wpFk_get rfl (by rfl) (fun K hK => ?_)
            refine ⟨?_, fun w' hS' => ?_, ?_⟩
            rotate_left
            · go_simp
              try (with_reducible rfl)
            try go_simp
            refine hK _ ?_
            clear hK K
            refine wpFk_get rfl (by rfl) (fun K hK => ?_)
            refine ⟨_, fun w' hS' => get_load rfl rfl (RY.out _ hS'), ?_⟩
            try go_simp
            refine hK _ ?_
            clear hK K
            refine wpFk_get rfl (by rfl) (fun K hK => ?_)
            refine ⟨_, fun w' hS' => get_neqH rfl rfl rfl (N3.out _), ?_⟩
            try go_simp
            refine hK _ ?_
            clear hK K
            refine wpFk_get rfl (by rfl) (fun K hK => ?_)
            refine ⟨?_, fun w' hS' => ?_, ?_⟩
            rotate_left
            · go_simp
              try (with_reducible rfl)
            try go_simp
            refine hK _ ?_
            clear hK K
            refine wpFk_get rfl (by rfl) (fun K hK => ?_)
            refine ⟨?_, fun w' hS' => ?_, ?_⟩
            rotate_left
            · go_simp
              try (with_reducible rfl)
            try go_simp
            refine hK _ ?_
            clear hK K
            refine wpFk_get rfl (by rfl) (fun K hK => ?_)
            refine ⟨?_, fun w' hS' => ?_, ?_⟩
            rotate_left
            · go_simp
              try (with_reducible rfl)
            try go_simp
            refine hK _ ?_
            clear hK K
            refine wpFk_get rfl (by rfl) (fun K hK => ?_)
            refine ⟨?_, fun w' hS' => ?_, ?_⟩
            rotate_left
            · go_simp
              try (with_reducible rfl)
            try go_simp
            refine hK _ ?_
            clear hK K
            refine wpFk_get rfl (by rfl) (fun K hK => ?_)
            refine ⟨_, fun w' hS' => get_load rfl rfl (RX.out _ (HOt.out.next hS')), ?_⟩
            try go_simp
            refine hK _ ?_
            clear hK K
            refine wpFk_get rfl (by rfl) (fun K hK => ?_)
            refine ⟨?_, fun w' hS' => ?_, ?_⟩
            rotate_left
            · go_simp
              try (with_reducible rfl)
            try go_simp
            refine hK _ ?_
            clear hK K
            refine wpFk_get rfl (by rfl) (fun K hK => ?_)
            refine ⟨?_, fun w' hS' => ?_, ?_⟩
            rotate_left
            · go_simp
              try (with_reducible rfl)
            try go_simp
            refine hK _ ?_
            clear hK K
            refine wpFk_get rfl (by rfl) (fun K hK => ?_)
            refine ⟨?_, fun w' hS' => ?_, ?_⟩
            rotate_left
            · go_simp
              try (with_reducible rfl)
            try go_simp
            refine hK _ ?_
            clear hK K
            refine wpFk_get rfl (by rfl) (fun K hK => ?_)
            refine ⟨_, fun w' hS' => get_load rfl rfl ((HOt.out.next hS').rt.read zR.out), ?_⟩
            try go_simp
            refine hK _ ?_
            clear hK K
            refine wpFk_call rfl (by rfl) (fun K hK => ?_)
            go_simp
            go_at_call 35
            refine (C3r.out _ HS.out).mono ?_
            rintro e w2x ⟨rfl, hb⟩
            replace HS := Lib.hid (below_new HS.out hb)
            clear hb
            refine hK _ _ HS.out ?_
            clear hK K
            refine wpFk_get rfl (by rfl) (fun K hK => ?_)
            refine ⟨?_, fun w' hS' => ?_, ?_⟩
            rotate_left
            · go_simp
              try (with_reducible rfl)
            try go_simp
            refine hK _ ?_
            clear hK K
            refine wpFk_get rfl (by rfl) (fun K hK => ?_)
            refine ⟨?_, fun w' hS' => ?_, ?_⟩
            rotate_left
            · go_simp
              try (with_reducible rfl)
            try go_simp
            refine hK _ ?_
            clear hK K
            refine wpFk_done ?_
            refine HQ.out _ _ ?_
            go_wp2
            go_meet
            case rel => exact ⟨rfl, Lib.hid ⟨HOt.out.next HS.out, HS.out⟩⟩
        case rest =>
          obtain ⟨rfl, hcut⟩ := hcut
          have HB7 := Lib.hid hcut.out.2
          have HOt := Lib.hid hcut.out.1
          clear hcut
          go_upto_region 17 with fail
          refine wp_region_fk (Below wc.heap.size wc) (.get 0 (.get 1 (.get 2 (.get 3 (.get 4 (.get 5 (.get 6 (.get 7 (.get 10 (.get 11 (.get 12 (.get 13 (.get 14 (.get 15 (.call 8 (.get 9 (.get 16 .done))))))))))))))))) (by kernel_rfl) rfl (by kernel_rfl) (by kernel_rfl) (by intro c a d v w h; cases d <;> exact h) (Below.refl wc.heap.size wc).drew (fun Q' hQ => ?_)
          have HS := Lib.hid (Below.refl wc.heap.size wc).drew
          have HQ := Lib.hid hQ
          clear hQ
          refine wpFk_get rfl (by rfl) (fun K hK => ?_)
          refine ⟨?_, fun w' hS' => ?_, ?_⟩
          rotate_left
          · go_simp
            try (with_reducible rfl)
          try go_simp
          refine hK _ ?_
          clear hK K
          refine wpFk_get rfl (by rfl) (fun K hK => ?_)
          refine ⟨?_, fun w' hS' => ?_, ?_⟩
          rotate_left
          · go_simp
            try (with_reducible rfl)
          try go_simp
          refine hK _ ?_
          clear hK K
          refine wpFk_get rfl (by rfl) (fun K hK => ?_)
          refine ⟨?_, fun w' hS' => ?_, ?_⟩
          rotate_left
          · go_simp
            try (with_reducible rfl)
          try go_simp
          refine hK _ ?_
          clear hK K
          refine wpFk_get rfl (by rfl) (fun K hK => ?_)
          refine ⟨_, fun w' hS' => get_load rfl rfl (RX.out _ (HOt.out.next hS')), ?_⟩
          try go_simp
          refine hK _ ?_
          clear hK K
          refine wpFk_get rfl (by rfl) (fun K hK => ?_)
          refine ⟨?_, fun w' hS' => ?_, ?_⟩
          rotate_left
          · go_simp
            try (with_reducible rfl)
          try go_simp
          refine hK _ ?_
          clear hK K
          refine wpFk_get rfl (by rfl) (fun K hK => ?_)
          refine ⟨?_, fun w' hS' => ?_, ?_⟩
          rotate_left
          · go_simp
            try (with_reducible rfl)
          try go_simp
          refine hK _ ?_
          clear hK K
          refine wpFk_get rfl (by rfl) (fun K hK => ?_)
          refine ⟨?_, fun w' hS' => ?_, ?_⟩
          rotate_left
          · go_simp
            try (with_reducible rfl)
          try go_simp
          refine hK _ ?_
          clear hK K
          refine wpFk_get rfl (by rfl) (fun K hK => ?_)
          refine ⟨_, fun w' hS' => get_load rfl rfl ((HOt.out.next hS').rt.read zR.out), ?_⟩
          try go_simp
          refine hK _ ?_
          clear hK K
          refine wpFk_get rfl (by rfl) (fun K hK => ?_)
          refine ⟨_, fun w' hS' => get_load rfl rfl ((HOt.out.next hS').h.read zH.out), ?_⟩
          try go_simp
          refine hK _ ?_
          clear hK K
          refine wpFk_get rfl (by rfl) (fun K hK => ?_)
          refine ⟨?_, fun w' hS' => ?_, ?_⟩
          rotate_left
          · go_simp
            try (with_reducible rfl)
          try go_simp
          refine hK _ ?_
          clear hK K
          refine wpFk_get rfl (by rfl) (fun K hK => ?_)
          refine ⟨?_, fun w' hS' => ?_, ?_⟩
          rotate_left
          · go_simp
            try (with_reducible rfl)
          try go_simp
          refine hK _ ?_
          clear hK K
          refine wpFk_get rfl (by rfl) (fun K hK => ?_)
          refine ⟨?_, fun w' hS' => ?_, ?_⟩
          rotate_left
          · go_simp
            try (with_reducible rfl)
          try go_simp
          refine hK _ ?_
          clear hK K
          refine wpFk_get rfl (by rfl) (fun K hK => ?_)
          refine ⟨_, fun w' hS' => get_load rfl rfl (RY.out _ (HB7.out.trans (hS'.mono HB7.out.size))), ?_⟩
          try go_simp
          refine hK _ ?_
          clear hK K
          refine wpFk_get rfl (by rfl) (fun K hK => ?_)
          refine ⟨_, fun w' hS' => get_eqH rfl rfl rfl (T3.out _), ?_⟩
          try go_simp
          refine hK _ ?_
          clear hK K
          refine wpFk_call rfl (by rfl) (fun K hK => ?_)
          go_simp
          go_at_call 34
          refine (C3p.out _ (HB7.out.trans (HS.out.mono HB7.out.size))).mono ?_
          rintro e w2x ⟨rfl, hb⟩
          replace HS := Lib.hid (below_new HS.out hb)
          clear hb
          refine hK _ _ HS.out ?_
          clear hK K
          refine wpFk_get rfl (by rfl) (fun K hK => ?_)
          refine ⟨?_, fun w' hS' => ?_, ?_⟩
          rotate_left
          · go_simp
            try (with_reducible rfl)
          try go_simp
          refine hK _ ?_
          clear hK K
          refine wpFk_get rfl (by rfl) (fun K hK => ?_)
          refine ⟨?_, fun w' hS' => ?_, ?_⟩
          rotate_left
          · go_simp
            try (with_reducible rfl)
          try go_simp
          refine hK _ ?_
          clear hK K
          refine wpFk_done ?_
          refine HQ.out _ _ ?_
          go_wp2
          go_roundw
          case rel => exact ⟨k + 1, by go_num, by omega, Lib.hid (HOt.out.next HS.out)⟩
          case measure => simp [intOf]; omega
      · have H8 := HO
        clear HO
        go_wp2
        go_loopw [15] (fun s15 wr => ∃ k : Nat, s15 = .int .i64 (k : Int) ∧ k ≤ m ∧ Hid (OtH w g10 g H R Ap ls P wr)) (fun s15 _ => (m - intOf s15).toNat)
        case atStart => exact ⟨0, rfl, by omega, H8⟩
        case round =>
          clear H8
          obtain ⟨k2, rfl, hkm, HOt⟩ := hrel
          obtain ⟨w7, hw7⟩ : ∃ w7, w7 = wr := ⟨_, rfl⟩
          rw [← hw7] at HOt ⊢
          clear hw7
          by_cases hlt2 : k2 < m
          · have d6 : (k2 : Int) < (m : Int) := by omega
            have hwk : IntKind.i64.wrap (k2 : Int) = (k2 : Int) := by rw [IntKind.wrap_i64]; omega
            obtain ⟨E4, hE4⟩ : ∃ E, Hid (E = checkF x (k2 : Int) (m : Int) P rt) := ⟨_, Lib.hid rfl⟩
            have C4p : Hid (∀ W, OtH w g10 g H R Ap ls P W → Calls Tryd.prog 34 #[.agg X, .int .i64 (k2 : Int), .int .i64 (m : Int), .slice Ap q cp, .agg R] W fun e w' => e = .returned (.int .i64 E4) ∧ Below W.heap.size W w') := Lib.hid fun W hW => by
              rw [hE4.out]; exact CP.out W Ap cp k2 x rt P X R hW.path hW.tab hPh.out hq.out.symm (by omega) HCP.out hX.out hR.out HX32.out HR32.out
            have C4r : Hid (∀ W, OtH w g10 g H R Ap ls P W → Calls Tryd.prog 35 #[.agg X, .int .i64 (k2 : Int), .int .i64 (m : Int), .slice Ap q cp, .agg R] W fun e w' => e = .returned (.int .i64 E4) ∧ Below W.heap.size W w') := Lib.hid fun W hW => by
              rw [hE4.out]; exact CR.out W Ap cp k2 x rt P X R hW.path hPh.out hq.out.symm (by omega) HCP.out hX.out hR.out HX32.out HR32.out
            have K4 : Hid (k2 = i → E4 = 0) := Lib.hid fun e => by rw [hE4.out, e]; exact KF.out
            obtain ⟨b4, hb4⟩ : ∃ b : Bool, b = decide (k2 = i) := ⟨_, rfl⟩
            have n4 : ((k2 : Int) == (i : Int)) = b4 := by
              by_cases e : k2 = i
              · rw [hb4, decide_eq_true e, e]; exact beq_self_eq_true _
              · rw [hb4, decide_eq_false e]; exact beq_eq_false_iff_ne.2 (fun h => e (Int.ofNat.inj h))
            have n5 : ((k2 : Int) != (i : Int)) = !b4 := by rw [bne, n4]
            by_cases hA : b4 = false ∧ E4 = 0
            · obtain ⟨rfl, hA2⟩ := hA
              subst hA2
              have n6 : ((k2 : Int) != (i : Int)) = true := n5
              clear hb4
              go_upto_region 22 with fail
              refine wp_region_fk (Below w7.heap.size w7) (.get 0 (.get 1 (.get 2 (.get 3 (.get 4 (.get 5 (.get 6 (.get 7 (.get 8 (.get 9 (.get 10 (.get 11 (.call 12 (.get 13 (.get 14 .done))))))))))))))) (by kernel_rfl) rfl (by kernel_rfl) (by kernel_rfl) (by intro c a d v w h; cases d <;> exact h) (Below.refl w7.heap.size w7).drew (fun Q' hQ => ?_)
              have HS := Lib.hid (Below.refl w7.heap.size w7).drew
              have HQ := Lib.hid hQ
              clear hQ
              refine wpFk_get rfl (by rfl) (fun K hK => ?_)
              refine ⟨?_, fun w' hS' => ?_, ?_⟩
              rotate_left
              · go_simp
                try (with_reducible rfl)
              try go_simp
              refine hK _ ?_
              clear hK K
              refine wpFk_get rfl (by rfl) (fun K hK => ?_)
              refine ⟨?_, fun w' hS' => ?_, ?_⟩
              rotate_left
              · go_simp
                try (with_reducible rfl)
              try go_simp
              refine hK _ ?_
              clear hK K
              refine wpFk_get rfl (by rfl) (fun K hK => ?_)
              refine ⟨?_, fun w' hS' => ?_, ?_⟩
              rotate_left
              · go_simp
                try (with_reducible rfl)
              try go_simp
              refine hK _ ?_
              clear hK K
              refine wpFk_get rfl (by rfl) (fun K hK => ?_)
              refine ⟨?_, fun w' hS' => ?_, ?_⟩
              rotate_left
              · go_simp
                try (with_reducible rfl)
              try go_simp
              refine hK _ ?_
              clear hK K
              refine wpFk_get rfl (by rfl) (fun K hK => ?_)
              refine ⟨?_, fun w' hS' => ?_, ?_⟩
              rotate_left
              · go_simp
                try (with_reducible rfl)
              try go_simp
              refine hK _ ?_
              clear hK K
              refine wpFk_get rfl (by rfl) (fun K hK => ?_)
              refine ⟨?_, fun w' hS' => ?_, ?_⟩
              rotate_left
              · go_simp
                try (with_reducible rfl)
              try go_simp
              refine hK _ ?_
              clear hK K
              refine wpFk_get rfl (by rfl) (fun K hK => ?_)
              refine ⟨?_, fun w' hS' => ?_, ?_⟩
              rotate_left
              · go_simp
                try (with_reducible rfl)
              try go_simp
              refine hK _ ?_
              clear hK K
              refine wpFk_get rfl (by rfl) (fun K hK => ?_)
              refine ⟨_, fun w' hS' => get_load rfl rfl (RX.out _ (HOt.out.next hS')), ?_⟩
              try go_simp
              refine hK _ ?_
              clear hK K
              refine wpFk_get rfl (by rfl) (fun K hK => ?_)
              refine ⟨?_, fun w' hS' => ?_, ?_⟩
              rotate_left
              · go_simp
                try (with_reducible rfl)
              try go_simp
              refine hK _ ?_
              clear hK K
              refine wpFk_get rfl (by rfl) (fun K hK => ?_)
              refine ⟨?_, fun w' hS' => ?_, ?_⟩
              rotate_left
              · go_simp
                try (with_reducible rfl)
              try go_simp
              refine hK _ ?_
              clear hK K
              refine wpFk_get rfl (by rfl) (fun K hK => ?_)
              refine ⟨?_, fun w' hS' => ?_, ?_⟩
              rotate_left
              · go_simp
                try (with_reducible rfl)
              try go_simp
              refine hK _ ?_
              clear hK K
              refine wpFk_get rfl (by rfl) (fun K hK => ?_)
              refine ⟨_, fun w' hS' => get_load rfl rfl ((HOt.out.next hS').rt.read zR.out), ?_⟩
              try go_simp
              refine hK _ ?_
              clear hK K
              refine wpFk_call rfl (by rfl) (fun K hK => ?_)
              go_simp
              go_at_call 35
              refine (C4r.out _ (HOt.out.next HS.out)).mono ?_
              rintro e w2x ⟨rfl, hb⟩
              replace HS := Lib.hid (below_new HS.out hb)
              clear hb
              refine hK _ _ HS.out ?_
              clear hK K
              refine wpFk_get rfl (by rfl) (fun K hK => ?_)
              refine ⟨?_, fun w' hS' => ?_, ?_⟩
              rotate_left
              · go_simp
                try (with_reducible rfl)
              try go_simp
              refine hK _ ?_
              clear hK K
              refine wpFk_get rfl (by rfl) (fun K hK => ?_)
              refine ⟨?_, fun w' hS' => ?_, ?_⟩
              rotate_left
              · go_simp
                try (with_reducible rfl)
              try go_simp
              refine hK _ ?_
              clear hK K
              refine wpFk_done ?_
              refine HQ.out _ _ ?_
              have HTB := Lib.hid (HOt.out.next HS.out).tab
              have HBB := Lib.hid (HOt.out.next HS.out).below
              go_wp2_with (go_at_call 31; (with_reducible refine (found_any _ HTB.out).mono ?_); rintro e w9 ⟨rfl, hb⟩; have HB9 := Lib.hid (below_new HBB.out hb); clear hb)
              go_ret
              exact ⟨rfl, HB9.out⟩
            have f4 : (E4 == 0) = b4 := by
              cases b4 with
              | true => rw [K4.out (of_decide_eq_true hb4.symm)]; rfl
              | false => simpa using fun e => hA ⟨rfl, e⟩
            clear hA hb4
            go_upto_region 22 with fail
            go_cut [169] (fun s169 wx => s169 = .bool false ∧ Hid (OtH w g10 g H R Ap ls P wx))
            case first =>
              cases b4 with
              | true =>
                have n6 : ((k2 : Int) != (i : Int)) = false := n5
                refine wp_region_fk (Below w7.heap.size w7) (.get 0 (.get 1 (.get 2 (.get 3 (.get 4 (.get 5 (.get 6 (.get 7 (.get 8 (.get 9 (.get 10 (.get 11 (.get 12 (.get 13 (.get 14 .done))))))))))))))) (by kernel_rfl) rfl (by kernel_rfl) (by kernel_rfl) (by intro c a d v w h; cases d <;> exact h) (Below.refl w7.heap.size w7).drew (fun Q' hQ => ?_)
                have HS := Lib.hid (Below.refl w7.heap.size w7).drew
                have HQ := Lib.hid hQ
                clear hQ
                refine wpFk_get rfl (by rfl) (fun K hK => ?_)
                refine ⟨?_, fun w' hS' => ?_, ?_⟩
                rotate_left
                · go_simp
                  try (with_reducible rfl)
                try go_simp
                refine hK _ ?_
                clear hK K
                refine wpFk_get rfl (by rfl) (fun K hK => ?_)
                refine ⟨?_, fun w' hS' => ?_, ?_⟩
                rotate_left
                · go_simp
                  try (with_reducible rfl)
                try go_simp
                refine hK _ ?_
                clear hK K
                refine wpFk_get rfl (by rfl) (fun K hK => ?_)
                refine ⟨?_, fun w' hS' => ?_, ?_⟩
                rotate_left
                · go_simp
                  try (with_reducible rfl)
                try go_simp
                refine hK _ ?_
                clear hK K
                refine wpFk_get rfl (by rfl) (fun K hK => ?_)
                refine ⟨?_, fun w' hS' => ?_, ?_⟩
                rotate_left
                · go_simp
                  try (with_reducible rfl)
                try go_simp
                refine hK _ ?_
                clear hK K
                refine wpFk_skip rfl (by rfl) (fun K hK => ?_)
                try go_simp
                refine hK _ ?_
                clear hK K
                refine wpFk_skip rfl (by rfl) (fun K hK => ?_)
                try go_simp
                refine hK _ ?_
                clear hK K
                refine wpFk_skip rfl (by rfl) (fun K hK => ?_)
                try go_simp
                refine hK _ ?_
                clear hK K
                refine wpFk_skip rfl (by rfl) (fun K hK => ?_)
                try go_simp
                refine hK _ ?_
                clear hK K
                refine wpFk_skip rfl (by rfl) (fun K hK => ?_)
                try go_simp
                refine hK _ ?_
                clear hK K
                refine wpFk_skip rfl (by rfl) (fun K hK => ?_)
                try go_simp
                refine hK _ ?_
                clear hK K
                refine wpFk_skip rfl (by rfl) (fun K hK => ?_)
                try go_simp
                refine hK _ ?_
                clear hK K
                refine wpFk_skip rfl (by rfl) (fun K hK => ?_)
                try go_simp
                refine hK _ ?_
                clear hK K
                refine wpFk_skip rfl (by rfl) (fun K hK => ?_)
                try go_simp
                refine hK _ ?_
                clear hK K
                refine wpFk_skip rfl (by rfl) (fun K hK => ?_)
                try go_simp
                refine hK _ ?_
                clear hK K
                refine wpFk_get rfl (by rfl) (fun K hK => ?_)
                refine ⟨?_, fun w' hS' => ?_, ?_⟩
                rotate_left
                · go_simp
                  try (with_reducible rfl)
                try go_simp
                refine hK _ ?_
                clear hK K
                refine wpFk_done ?_
                refine HQ.out _ _ ?_
                go_wp2
                go_meet
                case rel => exact ⟨rfl, Lib.hid (HOt.out.next HS.out)⟩
              | false =>
                have n6 : ((k2 : Int) != (i : Int)) = true := n5
                refine wp_region_fk (Below w7.heap.size w7) (.get 0 (.get 1 (.get 2 (.get 3 (.get 4 (.get 5 (.get 6 (.get 7 (.get 8 (.get 9 (.get 10 (.get 11 (.call 12 (.get 13 (.get 14 .done))))))))))))))) (by kernel_rfl) rfl (by kernel_rfl) (by kernel_rfl) (by intro c a d v w h; cases d <;> exact h) (Below.refl w7.heap.size w7).drew (fun Q' hQ => ?_)
                have HS := Lib.hid (Below.refl w7.heap.size w7).drew
                have HQ := Lib.hid hQ
                clear hQ
                refine wpFk_get rfl (by rfl) (fun K hK => ?_)
                refine ⟨?_, fun w' hS' => ?_, ?_⟩
                rotate_left
                · go_simp
                  try (with_reducible rfl)
                try go_simp
                refine hK _ ?_
                clear hK K
                refine wpFk_get rfl (by rfl) (fun K hK => ?_)
                refine ⟨?_, fun w' hS' => ?_, ?_⟩
                rotate_left
                · go_simp
                  try (with_reducible rfl)
                try go_simp
                refine hK _ ?_
                clear hK K
                refine wpFk_get rfl (by rfl) (fun K hK => ?_)
                refine ⟨?_, fun w' hS' => ?_, ?_⟩
                rotate_left
                · go_simp
                  try (with_reducible rfl)
                try go_simp
                refine hK _ ?_
                clear hK K
                refine wpFk_get rfl (by rfl) (fun K hK => ?_)
                refine ⟨?_, fun w' hS' => ?_, ?_⟩
                rotate_left
                · go_simp
                  try (with_reducible rfl)
                try go_simp
                refine hK _ ?_
                clear hK K
                refine wpFk_get rfl (by rfl) (fun K hK => ?_)
                refine ⟨?_, fun w' hS' => ?_, ?_⟩
                rotate_left
                · go_simp
                  try (with_reducible rfl)
                try go_simp
                refine hK _ ?_
                clear hK K
                refine wpFk_get rfl (by rfl) (fun K hK => ?_)
                refine ⟨?_, fun w' hS' => ?_, ?_⟩
                rotate_left
                · go_simp
                  try (with_reducible rfl)
                try go_simp
                refine hK _ ?_
                clear hK K
                refine wpFk_get rfl (by rfl) (fun K hK => ?_)
                refine ⟨?_, fun w' hS' => ?_, ?_⟩
                rotate_left
                · go_simp
                  try (with_reducible rfl)
                try go_simp
                refine hK _ ?_
                clear hK K
                refine wpFk_get rfl (by rfl) (fun K hK => ?_)
                refine ⟨_, fun w' hS' => get_load rfl rfl (RX.out _ (HOt.out.next hS')), ?_⟩
                try go_simp
                refine hK _ ?_
                clear hK K
                refine wpFk_get rfl (by rfl) (fun K hK => ?_)
                refine ⟨?_, fun w' hS' => ?_, ?_⟩
                rotate_left
                · go_simp
                  try (with_reducible rfl)
                try go_simp
                refine hK _ ?_
                clear hK K
                refine wpFk_get rfl (by rfl) (fun K hK => ?_)
                refine ⟨?_, fun w' hS' => ?_, ?_⟩
                rotate_left
                · go_simp
                  try (with_reducible rfl)
                try go_simp
                refine hK _ ?_
                clear hK K
                refine wpFk_get rfl (by rfl) (fun K hK => ?_)
                refine ⟨?_, fun w' hS' => ?_, ?_⟩
                rotate_left
                · go_simp
                  try (with_reducible rfl)
                try go_simp
                refine hK _ ?_
                clear hK K
                refine wpFk_get rfl (by rfl) (fun K hK => ?_)
                refine ⟨_, fun w' hS' => get_load rfl rfl ((HOt.out.next hS').rt.read zR.out), ?_⟩
                try go_simp
                refine hK _ ?_
                clear hK K
                refine wpFk_call rfl (by rfl) (fun K hK => ?_)
                go_simp
                go_at_call 35
                refine (C4r.out _ (HOt.out.next HS.out)).mono ?_
                rintro e w2x ⟨rfl, hb⟩
                replace HS := Lib.hid (below_new HS.out hb)
                clear hb
                refine hK _ _ HS.out ?_
                clear hK K
                refine wpFk_get rfl (by rfl) (fun K hK => ?_)
                refine ⟨?_, fun w' hS' => ?_, ?_⟩
                rotate_left
                · go_simp
                  try (with_reducible rfl)
                try go_simp
                refine hK _ ?_
                clear hK K
                refine wpFk_get rfl (by rfl) (fun K hK => ?_)
                refine ⟨?_, fun w' hS' => ?_, ?_⟩
                rotate_left
                · go_simp
                  try (with_reducible rfl)
                try go_simp
                refine hK _ ?_
                clear hK K
                refine wpFk_done ?_
                refine HQ.out _ _ ?_
                go_wp2
                go_meet
                case rel => exact ⟨rfl, Lib.hid (HOt.out.next HS.out)⟩
            case rest =>
              obtain ⟨rfl, HOt⟩ := hcut
              go_upto_region 24 with fail
              refine wp_region_fk (Below wc.heap.size wc) (.get 0 (.get 1 (.get 2 (.get 3 (.get 4 (.get 5 (.get 6 (.get 7 (.get 10 (.get 11 (.get 12 (.call 8 (.get 9 (.get 13 .done)))))))))))))) (by kernel_rfl) rfl (by kernel_rfl) (by kernel_rfl) (by intro c a d v w h; cases d <;> exact h) (Below.refl wc.heap.size wc).drew (fun Q' hQ => ?_)
              have HS := Lib.hid (Below.refl wc.heap.size wc).drew
              have HQ := Lib.hid hQ
              clear hQ
              refine wpFk_get rfl (by rfl) (fun K hK => ?_)
              refine ⟨?_, fun w' hS' => ?_, ?_⟩
              rotate_left
              · go_simp
                try (with_reducible rfl)
              try go_simp
              refine hK _ ?_
              clear hK K
              refine wpFk_get rfl (by rfl) (fun K hK => ?_)
              refine ⟨?_, fun w' hS' => ?_, ?_⟩
              rotate_left
              · go_simp
                try (with_reducible rfl)
              try go_simp
              refine hK _ ?_
              clear hK K
              refine wpFk_get rfl (by rfl) (fun K hK => ?_)
              refine ⟨?_, fun w' hS' => ?_, ?_⟩
              rotate_left
              · go_simp
                try (with_reducible rfl)
              try go_simp
              refine hK _ ?_
              clear hK K
              refine wpFk_get rfl (by rfl) (fun K hK => ?_)
              refine ⟨_, fun w' hS' => get_load rfl rfl (RX.out _ (HOt.out.next hS')), ?_⟩
              try go_simp
              refine hK _ ?_
              clear hK K
              refine wpFk_get rfl (by rfl) (fun K hK => ?_)
              refine ⟨?_, fun w' hS' => ?_, ?_⟩
              rotate_left
              · go_simp
                try (with_reducible rfl)
              try go_simp
              refine hK _ ?_
              clear hK K
              refine wpFk_get rfl (by rfl) (fun K hK => ?_)
              refine ⟨?_, fun w' hS' => ?_, ?_⟩
              rotate_left
              · go_simp
                try (with_reducible rfl)
              try go_simp
              refine hK _ ?_
              clear hK K
              refine wpFk_get rfl (by rfl) (fun K hK => ?_)
              refine ⟨?_, fun w' hS' => ?_, ?_⟩
              rotate_left
              · go_simp
                try (with_reducible rfl)
              try go_simp
              refine hK _ ?_
              clear hK K
              refine wpFk_get rfl (by rfl) (fun K hK => ?_)
              refine ⟨_, fun w' hS' => get_load rfl rfl ((HOt.out.next hS').rt.read zR.out), ?_⟩
              try go_simp
              refine hK _ ?_
              clear hK K
              refine wpFk_get rfl (by rfl) (fun K hK => ?_)
              refine ⟨?_, fun w' hS' => ?_, ?_⟩
              rotate_left
              · go_simp
                try (with_reducible rfl)
              try go_simp
              refine hK _ ?_
              clear hK K
              refine wpFk_get rfl (by rfl) (fun K hK => ?_)
              refine ⟨?_, fun w' hS' => ?_, ?_⟩
              rotate_left
              · go_simp
                try (with_reducible rfl)
              try go_simp
              refine hK _ ?_
              clear hK K
              refine wpFk_get rfl (by rfl) (fun K hK => ?_)
              refine ⟨?_, fun w' hS' => ?_, ?_⟩
              rotate_left
              · go_simp
                try (with_reducible rfl)
              try go_simp
              refine hK _ ?_
              clear hK K
              refine wpFk_call rfl (by rfl) (fun K hK => ?_)
              go_simp
              go_at_call 34
              refine (C4p.out _ (HOt.out.next HS.out)).mono ?_
              rintro e w2x ⟨rfl, hb⟩
              replace HS := Lib.hid (below_new HS.out hb)
              clear hb
              refine hK _ _ HS.out ?_
              clear hK K
              refine wpFk_get rfl (by rfl) (fun K hK => ?_)
              refine ⟨?_, fun w' hS' => ?_, ?_⟩
              rotate_left
              · go_simp
                try (with_reducible rfl)
              try go_simp
              refine hK _ ?_
              clear hK K
              refine wpFk_get rfl (by rfl) (fun K hK => ?_)
              refine ⟨?_, fun w' hS' => ?_, ?_⟩
              rotate_left
              · go_simp
                try (with_reducible rfl)
              try go_simp
              refine hK _ ?_
              clear hK K
              refine wpFk_done ?_
              refine HQ.out _ _ ?_
              go_wp2
              go_roundw
              case rel => exact ⟨k2 + 1, by go_num, by omega, Lib.hid (HOt.out.next HS.out)⟩
              case measure => simp [intOf]; omega
          · have HTB := Lib.hid HOt.out.tab
            have HBB := Lib.hid HOt.out.below
            go_wp2_with (go_at_call 31; (with_reducible refine (found_any _ HTB.out).mono ?_); rintro e w9 ⟨rfl, hb⟩; have HB9 := Lib.hid (below_new HBB.out hb); clear hb)
            go_ret
            exact ⟨rfl, HB9.out⟩
end Go.Proofs.YtfakimbneenfdaaDoor
