/-
  Proved: called with any two rough heads and any key, the statement HeadsTell (the bytes of any signed head, what is signed of it, whether it may be, is checked, and is the same as another one, and how heads stand to each other, are the document's; of a Sig of more than 300 bytes or a path of more than 40 hashes it asks the examples alone) returns true, and its arguments read as before. Condition: the two tables of the package sha hold what the program's text lays, which the card ties to that text.
-/
import Derived.Test.YtpndccoikhejgaaDoorPk28
import Derived.Test.YtpndccoikhejgaaDoorPk38
namespace Go.Proofs.YtpndccoikhejgaaDoor
open Go.RowKit Go.Great
set_option linter.unusedVariables false
set_option maxRecDepth 100000

/-- What HeadsTell holds ahead: two rough heads, a key. -/
structure TlH (w : World) (CX CY K : Array Value) (A : Option Addr) (xs : List (List Int)) (B : Option Addr) (ys : List (List Int)) (W : World) : Prop where
  rx : Row W w.heap.size 29 CX
  ry : Row W (w.heap.size + 1) 29 CY
  rk : Row W (w.heap.size + 1 + 1) 23 K
  la : HW W A xs
  lb : HW W B ys
  tab : Tab W
  below : Below w.heap.size w W
theorem TlH.next {w W W1 : World} {CX CY K : Array Value} {A B : Option Addr} {xs ys : List (List Int)} (h : TlH w CX CY K A xs B ys W) (hb : Below W.heap.size W W1) : TlH w CX CY K A xs B ys W1 := ⟨h.rx.next hb, h.ry.next hb, h.rk.next hb, h.la.next hb, h.lb.next hb, h.tab.next hb, below_new h.below hb⟩
theorem TlH.start {w : World} (CX CY K : Array Value) {A B : Option Addr} {xs ys : List (List Int)} (hA : HW w A xs) (hB : HW w B ys) (hT : Tab w) : TlH w CX CY K A xs B ys (((w.alloc (.cells CX 29)).alloc (.cells CY 29)).alloc (.cells K 23)) :=
  have hb : Below w.heap.size w (((w.alloc (.cells CX 29)).alloc (.cells CY 29)).alloc (.cells K 23)) := (((Below.refl _ _).alloc (Nat.le_refl _) _).alloc (by simp) _).alloc (by simp; omega) _
  have h3 : Row (((w.alloc (.cells CX 29)).alloc (.cells CY 29)).alloc (.cells K 23)) (w.heap.size + 1 + 1) 23 K := by
    have := Row.made ((w.alloc (.cells CX 29)).alloc (.cells CY 29)) 23 K
    have e : ((w.alloc (.cells CX 29)).alloc (.cells CY 29)).heap.size = w.heap.size + 1 + 1 := by simp
    rw [e] at this
    exact this
  ⟨((Row.made _ _ _).alloc _).alloc _, (Row.made2 _ _ _ _).alloc _, h3, hA.next hb, hB.next hb, hT.next hb, hb⟩
/-- A row of a block that was made since. -/
theorem TlH.set {w W : World} {CX CY K : Array Value} {A B : Option Addr} {xs ys : List (List Int)} (h : TlH w CX CY K A xs B ys W) (hA : HW w A xs) (hB : HW w B ys) (hT : Tab w) (g : Nat) (hg : w.heap.size + 1 + 1 < g) (C : Array Value) : TlH w CX CY K A xs B ys (W.setRow g C) :=
  have hb : Below w.heap.size w (W.setRow g C) := below_setRow h.below (by omega)
  ⟨h.rx.wfar (by omega) _, h.ry.wfar (by omega) _, h.rk.wfar (by omega) _, hA.next hb, hB.next hb, hT.next hb, hb⟩
/-- What it holds behind: two signed heads, a key. -/
structure TsH (w : World) (K : Array Value) (g7 g8 : Nat) (SA SB : Array Value) (A : Option Addr) (xs : List (List Int)) (B : Option Addr) (ys : List (List Int)) (W : World) : Prop where
  ra : Row W g7 34 SA
  rb : Row W g8 34 SB
  rk : Row W (w.heap.size + 1 + 1) 23 K
  la : HW W A xs
  lb : HW W B ys
  tab : Tab W
  below : Below w.heap.size w W
theorem TsH.next {w W W1 : World} {K : Array Value} {g7 g8 : Nat} {SA SB : Array Value} {A B : Option Addr} {xs ys : List (List Int)} (h : TsH w K g7 g8 SA SB A xs B ys W) (hb : Below W.heap.size W W1) : TsH w K g7 g8 SA SB A xs B ys W1 := ⟨h.ra.next hb, h.rb.next hb, h.rk.next hb, h.la.next hb, h.lb.next hb, h.tab.next hb, below_new h.below hb⟩
theorem TlH.on {w W : World} {CX CY K : Array Value} {A B : Option Addr} {xs ys : List (List Int)} (h : TlH w CX CY K A xs B ys W) {g7 g8 : Nat} {SA SB : Array Value} (h1 : Row W g7 34 SA) (h2 : Row W g8 34 SB) : TsH w K g7 g8 SA SB A xs B ys W := ⟨h1, h2, h.rk, h.la, h.lb, h.tab, h.below⟩
theorem get_loadR {o : Oper} {a : Act} {x : Operand} {p : Option Addr} {v : Value} {w : World} (ho : o.op = .load 29 x) (hx : a.eval x = .pointer p) (h : (readRg (.pointer p)).run Tryd.prog w = .ok v w) : (execOp a.eval o).run Tryd.prog w = .ok (.value v) w := by
  unfold execOp
  simp only [ho, hx, read_rg, Sem.run_bind, Sem.run_pure, h, Result.andThen_ok]
attribute [local go_sem ↓ high] read_rg read_g write_g
set_option maxHeartbeats 16000000 in
theorem headstell_any (HS : HeadSays) (s : Int) (h64x : num64 s) (r : List Int) (hrx : r.length = 32 ∧ bytes r) (i : Int) (i64x : num64 i) (t : ByteArray) (htx : t.size ≤ maxLen) (m : Int) (hmx : -128 ≤ m ∧ m ≤ 127) (xs : List (List Int)) (hhx : hashes xs) (A : Option Addr) (c : Nat) (hcx : xs.length ≤ c) (hcmx : c ≤ maxLen) (s2 : Int) (h64y : num64 s2) (r2 : List Int) (hry : r2.length = 32 ∧ bytes r2) (i2 : Int) (i64y : num64 i2) (t2 : ByteArray) (hty : t2.size ≤ maxLen) (m2 : Int) (hmy : -128 ≤ m2 ∧ m2 ≤ 127) (ys : List (List Int)) (hhy : hashes ys) (B : Option Addr) (d : Nat) (hcy : ys.length ≤ d) (hcmy : d ≤ maxLen) (key : List Int) (hk : key.length = 32 ∧ bytes key) (w : World) (hA : HW w A xs) (hB : HW w B ys) (hT : Tab w) :
    Calls Tryd.prog 3 #[.agg (roughV s r i t m A xs.length c), .agg (roughV s2 r2 i2 t2 m2 B ys.length d), .agg (nums .u8 key)] w fun e w' => e = .returned (.bool true) ∧ Below w.heap.size w w' := by
  have KED : Hid (∀ W, Tab W → Calls Tryd.prog 8 #[] W fun e w' => e = .returned (.bool true) ∧ Below W.heap.size W w') := Lib.hid fun W h => headed_any HS W h
  obtain ⟨n, hn⟩ : ∃ n, Hid (n = xs.length) := ⟨_, Lib.hid rfl⟩
  obtain ⟨n2, hn2⟩ : ∃ n, Hid (n = ys.length) := ⟨_, Lib.hid rfl⟩
  rw [← hn.out, ← hn2.out]
  obtain ⟨CX, hCX⟩ : ∃ C, Hid (C = roughV s r i t m A n c) := ⟨_, Lib.hid rfl⟩
  obtain ⟨CY, hCY⟩ : ∃ C, Hid (C = roughV s2 r2 i2 t2 m2 B n2 d) := ⟨_, Lib.hid rfl⟩
  obtain ⟨K, hK⟩ : ∃ C, Hid (C = nums .u8 key) := ⟨_, Lib.hid rfl⟩
  have zK : Hid (K.size = 32) := Lib.hid (by rw [hK.out, nums_size]; exact hk.1)
  have GX : Hid (∀ W g, Row W g 29 CX → (readRg (.pointer (some ⟨g, 0, none⟩))).run Tryd.prog W = .ok (.agg CX) W) := Lib.hid fun W g h => by rw [hCX.out] at h ⊢; exact rough_all h hrx.1
  have GY : Hid (∀ W g, Row W g 29 CY → (readRg (.pointer (some ⟨g, 0, none⟩))).run Tryd.prog W = .ok (.agg CY) W) := Lib.hid fun W g h => by rw [hCY.out] at h ⊢; exact rough_all h hry.1
  have H0 := Lib.hid (TlH.start CX CY K hA hB hT)
  have HA0 := Lib.hid hA
  have HB0 := Lib.hid hB
  have HT0 := Lib.hid hT
  have XGX : Hid (∀ W, Calls Tryd.prog 7 #[.agg CX] W fun e w' => e = .returned (.bool (decide (300 < t.size ∨ 40 < n))) ∧ Below W.heap.size W w') := Lib.hid fun W => by
    rw [hCX.out]; exact great_any s r hrx.1 i t m A n c W
  have XGY : Hid (∀ W, Calls Tryd.prog 7 #[.agg CY] W fun e w' => e = .returned (.bool (decide (300 < t2.size ∨ 40 < n2))) ∧ Below W.heap.size W w') := Lib.hid fun W => by
    rw [hCY.out]; exact great_any s2 r2 hry.1 i2 t2 m2 B n2 d W
  rw [← hCX.out, ← hCY.out, ← hK.out]
  clear hA hB hT
  by_cases h1 : 300 < t.size ∨ 40 < n
  · rw [decide_eq_true h1] at XGX
    clear h1 hmx hmy hrx hry hhx hhy hcx hcy hcmx hcmy
    go_enter Tryd.func3, Tryd.ntmps3
    go_upto_region 1 with fail
    refine world_gen (fun X => TlH w CX CY K A xs B ys X) H0.out (fun X HX => ?_)
    have HX := Lib.hid HX
    clear H0
    have l0 := GX.out _ _ HX.out.rx
    go_wp2_with (first
      | (go_at_call 7; (with_reducible refine (XGX.out _).mono ?_); rintro e w1 ⟨rfl, hb⟩; have H1 := Lib.hid (HX.out.next hb); clear hb)
      | (go_at_call 8; (with_reducible refine (KED.out _ H1.out.tab).mono ?_); rintro e wz ⟨rfl, hb⟩; have HB := Lib.hid (below_new H1.out.below hb); clear hb))
    go_ret
    exact ⟨rfl, HB.out⟩
  rw [decide_eq_false h1] at XGX
  by_cases h2 : 300 < t2.size ∨ 40 < n2
  · rw [decide_eq_true h2] at XGY
    clear h1 h2 hmx hmy hrx hry hhx hhy hcx hcy hcmx hcmy
    go_enter Tryd.func3, Tryd.ntmps3
    go_upto_region 1 with fail
    refine world_gen (fun X => TlH w CX CY K A xs B ys X) H0.out (fun X HX => ?_)
    have HX := Lib.hid HX
    clear H0
    have l0 := GX.out _ _ HX.out.rx
    go_wp2_with (first
      | ((go_at_call 7; (with_reducible refine (XGX.out _).mono ?_); rintro e w1 ⟨rfl, hb⟩; have H1 := Lib.hid (HX.out.next hb); clear hb); have l1 := GY.out _ _ H1.out.ry)
      | (go_at_call 7; (with_reducible refine (XGY.out _).mono ?_); rintro e w2 ⟨rfl, hb⟩; have H2 := Lib.hid (H1.out.next hb); clear hb)
      | (go_at_call 8; (with_reducible refine (KED.out _ H2.out.tab).mono ?_); rintro e wz ⟨rfl, hb⟩; have HB := Lib.hid (below_new H2.out.below hb); clear hb))
    go_ret
    exact ⟨rfl, HB.out⟩
  rw [decide_eq_false h2] at XGY
  have XSX : Hid (∀ W, Calls Tryd.prog 9 #[.agg CX] W fun e w' => ∃ x : Sh, ((x.size = s ∧ x.root = r ∧ x.index = i ∧ x.path = xs) ∧ x.sig.size ≤ 16511) ∧ e = .returned (.agg (shV x A c)) ∧ Below W.heap.size W w') := Lib.hid fun W => by
    rw [hCX.out]
    refine (signed_any s r hrx.1 i t (by omega) m hmx A n c W).mono ?_
    rintro e w' ⟨sg, h1, h2, h3⟩
    exact ⟨⟨s, r, i, sg, xs⟩, ⟨⟨rfl, rfl, rfl, rfl⟩, h1⟩, by rw [h2, hn.out]; rfl, h3⟩
  have XSY : Hid (∀ W, Calls Tryd.prog 9 #[.agg CY] W fun e w' => ∃ x : Sh, ((x.size = s2 ∧ x.root = r2 ∧ x.index = i2 ∧ x.path = ys) ∧ x.sig.size ≤ 16511) ∧ e = .returned (.agg (shV x B d)) ∧ Below W.heap.size W w') := Lib.hid fun W => by
    rw [hCY.out]
    refine (signed_any s2 r2 hry.1 i2 t2 (by omega) m2 hmy B n2 d W).mono ?_
    rintro e w' ⟨sg, h1, h2, h3⟩
    exact ⟨⟨s2, r2, i2, sg, ys⟩, ⟨⟨rfl, rfl, rfl, rfl⟩, h1⟩, by rw [h2, hn2.out]; rfl, h3⟩
  have HPX := Lib.hid (And.intro h64x (And.intro hrx (And.intro i64x (And.intro hhx (And.intro hcx hcmx)))))
  have HPY := Lib.hid (And.intro h64y (And.intro hry (And.intro i64y (And.intro hhy (And.intro hcy hcmy)))))
  have HKY := Lib.hid hk
  obtain ⟨ZS, hZS⟩ : ∃ C, Hid (C = signedV 0 zeroL 0 ⟨#[]⟩ none 0 0) := ⟨_, Lib.hid rfl⟩
  have zZ : Hid (ZS.size = 36 ∧ ZS.all (·.oneCell') = true) := Lib.hid (by rw [hZS.out]; exact ⟨signedV_size _ _ _ _ _ _ _ zeroL_is.1, signedV_one _ _ _ _ _ _ _⟩)
  have xS : Hid (∀ (x : Sh) A c, (x.root = r ∨ x.root = r2) → (shV x A c).size = 36 ∧ (shV x A c).all (·.oneCell') = true) := Lib.hid fun x A c h => ⟨signedV_size _ _ _ _ _ _ _ (h.elim (fun h => by rw [h]; exact hrx.1) (fun h => by rw [h]; exact hry.1)), signedV_one _ _ _ _ _ _ _⟩
  clear h1 h2 h64x h64y i64x i64y htx hty hmx hmy hrx hry hhx hhy hcx hcy hcmx hcmy hk
  go_enter Tryd.func3, Tryd.ntmps3
  go_upto_region 1 with fail
  refine world_gen (fun X => TlH w CX CY K A xs B ys X) H0.out (fun X HX => ?_)
  have HX := Lib.hid HX
  clear H0
  have l0 := GX.out _ _ HX.out.rx
  go_upto_region 3 with (first
    | ((go_at_call 7; (with_reducible refine (XGX.out _).mono ?_); rintro e w1 ⟨rfl, hb⟩; have H1 := Lib.hid (HX.out.next hb); clear hb); have l1 := GY.out _ _ H1.out.ry)
    | (go_at_call 7; (with_reducible refine (XGY.out _).mono ?_); rintro e w2 ⟨rfl, hb⟩; have H2 := Lib.hid (H1.out.next hb); clear hb))
  clear l0 l1
  obtain ⟨wd, hwd⟩ : ∃ X, X = w2 := ⟨_, rfl⟩
  rw [← hwd] at H2 ⊢
  clear hwd H1 HX XGX XGY
  go_cut [7, 8] (fun s7 s8 wx => ∃ g7 g8, ∃ x y : Sh, s7 = .pointer (some ⟨g7, 0, none⟩) ∧ s8 = .pointer (some ⟨g8, 0, none⟩) ∧ Hid (((x.size = s ∧ x.root = r ∧ x.index = i ∧ x.path = xs) ∧ x.sig.size ≤ 16511) ∧ ((y.size = s2 ∧ y.root = r2 ∧ y.index = i2 ∧ y.path = ys) ∧ y.sig.size ≤ 16511) ∧ TsH w K g7 g8 (shV x A c) (shV y B d) A xs B ys wx))
  case first =>
    refine wp_region_fk (TlH w CX CY K A xs B ys) (.get 0 (.get 2 (.fork3 1 4 5 (.fork3 3 4 5 (.fork 4 5 (.call 5 (.call 6 (.call 7 .done))) (.call 4 (.call 6 (.call 7 .done)))) (.fork 3 5 (.call 5 (.call 6 (.call 7 .done))) (.call 3 (.call 6 (.call 7 .done)))) (.fork 3 4 (.call 4 (.call 6 (.call 7 .done))) (.call 3 (.call 6 (.call 7 .done))))) (.fork 1 5 (.fork 3 5 (.call 5 (.call 6 (.call 7 .done))) (.call 3 (.call 6 (.call 7 .done)))) (.call 1 (.call 3 (.call 6 (.call 7 .done))))) (.fork 1 4 (.fork 3 4 (.call 4 (.call 6 (.call 7 .done))) (.call 3 (.call 6 (.call 7 .done)))) (.call 1 (.call 3 (.call 6 (.call 7 .done)))))))) (by kernel_rfl) rfl (by kernel_rfl) (by kernel_rfl) (by intro c a d v w h; cases d <;> exact h) (H2.out.next (Below.refl _ _).drew) (fun Q' hQ => ?_)
    have HS := Lib.hid (H2.out.next (Below.refl _ _).drew)
    have HQ := Lib.hid hQ
    clear hQ H2
    obtain ⟨wc, hwc⟩ : ∃ X, X = wd.drew := ⟨_, rfl⟩
    rw [← hwc] at HS ⊢
    clear hwc
    refine wpFk_get rfl (by rfl) (fun K hK => ?_)
    refine ⟨_, fun w' hS' => get_loadR rfl rfl (GX.out _ _ hS'.rx), ?_⟩
    try go_simp
    refine hK _ ?_
    clear hK K
    refine wpFk_get rfl (by rfl) (fun K hK => ?_)
    refine ⟨_, fun w' hS' => get_loadR rfl rfl (GY.out _ _ hS'.ry), ?_⟩
    try go_simp
    refine hK _ ?_
    clear hK K
    refine wpFk_fork3 ?_ ?_ ?_
    · refine wpFk_call rfl (by rfl) (fun K hK => ?_)
      go_simp
      go_at_call 9
      (with_reducible refine (XSX.out _).mono ?_)
      rintro e wc ⟨x, Jx, rfl, hb⟩
      replace Jx := Lib.hid Jx
      replace HS := Lib.hid (HS.out.next hb)
      clear hb
      have zx := Lib.hid (xS.out x A c (.inl Jx.out.1.2.1))
      obtain ⟨Sx, hSx⟩ : ∃ C, Hid (C = shV x A c) := ⟨_, Lib.hid rfl⟩
      rw [← hSx.out] at zx ⊢
      refine hK _ _ HS.out ?_
      clear hK K
      refine wpFk_fork3 ?_ ?_ ?_
      · refine wpFk_call rfl (by rfl) (fun K hK => ?_)
        go_simp
        go_at_call 9
        (with_reducible refine (XSY.out _).mono ?_)
        rintro e wc ⟨y, Jy, rfl, hb⟩
        replace Jy := Lib.hid Jy
        replace HS := Lib.hid (HS.out.next hb)
        clear hb
        have zy := Lib.hid (xS.out y B d (.inr Jy.out.1.2.1))
        obtain ⟨Sy, hSy⟩ : ∃ C, Hid (C = shV y B d) := ⟨_, Lib.hid rfl⟩
        rw [← hSy.out] at zy ⊢
        refine hK _ _ HS.out ?_
        clear hK K
        refine wpFk_fork ?_ ?_
        · refine wpFk_call rfl (by rfl) (fun K hK => ?_)
          go_simp
          rw [signed_zero, ← hZS.out]
          have RN := Lib.hid (Row.made wc 34 ZS)
          have LO4 : Hid (w.heap.size + 1 + 1 < wc.heap.size) := Lib.hid HS.out.rk.lt
          have hb := (Below.refl wc.heap.size wc).alloc (Nat.le_refl _) (.cells ZS 34)
          replace HS := Lib.hid (HS.out.next hb)
          clear hb
          obtain ⟨g7, hg⟩ : ∃ g, g = wc.heap.size := ⟨_, rfl⟩
          obtain ⟨wn, hwn⟩ : ∃ X, X = wc.alloc (.cells ZS 34) := ⟨_, rfl⟩
          rw [← hg, ← hwn]
          rw [← hwn, ← hg] at RN
          rw [← hwn] at HS
          rw [← hg] at LO4
          have R4 := RN
          clear hg hwn RN
          obtain ⟨wc, hwc⟩ : ∃ X, X = wn := ⟨_, rfl⟩
          subst hwc
          refine hK _ _ HS.out ?_
          clear hK K
          refine wpFk_call rfl (by rfl) (fun K hK => ?_)
          go_simp
          rw [signed_zero, ← hZS.out]
          have RN := Lib.hid (Row.made wc 34 ZS)
          have LO5 : Hid (w.heap.size + 1 + 1 < wc.heap.size) := Lib.hid HS.out.rk.lt
          have hb := (Below.refl wc.heap.size wc).alloc (Nat.le_refl _) (.cells ZS 34)
          have NE : Hid (g7 ≠ wc.heap.size) := Lib.hid (Nat.ne_of_lt R4.out.lt)
          replace HS := Lib.hid (HS.out.next hb)
          replace R4 := Lib.hid (R4.out.next hb)
          clear hb
          obtain ⟨g8, hg⟩ : ∃ g, g = wc.heap.size := ⟨_, rfl⟩
          obtain ⟨wn, hwn⟩ : ∃ X, X = wc.alloc (.cells ZS 34) := ⟨_, rfl⟩
          rw [← hg, ← hwn]
          rw [← hwn, ← hg] at RN
          rw [← hwn] at HS
          rw [← hg] at LO5
          rw [← hwn] at R4
          rw [← hg] at NE
          have R5 := RN
          clear hg hwn RN
          obtain ⟨wc, hwc⟩ : ∃ X, X = wn := ⟨_, rfl⟩
          subst hwc
          refine hK _ _ HS.out ?_
          clear hK K
          refine wpFk_call rfl (by rfl) (fun K hK => ?_)
          have s6 := R4.out.writeG zZ.out.1 zx.out.1 zx.out.2
          go_simp
          clear s6
          have HF := Lib.hid (HS.out.set HA0.out HB0.out HT0.out g7 LO4.out Sx)
          have RA := Lib.hid (R4.out.whole Sx)
          have RB := Lib.hid (R5.out.wfar (by first | exact NE.out | exact NE.out.symm) Sx)
          clear HS R4 R5
          have HS := HF
          clear HF
          refine hK _ _ HS.out ?_
          clear hK K
          refine wpFk_call rfl (by rfl) (fun K hK => ?_)
          have s7 := RB.out.writeG zZ.out.1 zy.out.1 zy.out.2
          go_simp
          clear s7
          have HF := Lib.hid (HS.out.set HA0.out HB0.out HT0.out g8 LO5.out Sy)
          have RB2 := Lib.hid (RB.out.whole Sy)
          have RA2 := Lib.hid (RA.out.wfar (by first | exact NE.out | exact NE.out.symm) Sy)
          clear HS RA RB
          have HS := HF
          clear HF
          refine hK _ _ HS.out ?_
          clear hK K
          refine wpFk_done ?_
          refine HQ.out _ _ ?_
          clear HQ
          go_wp2
          go_meet
          exact ⟨g7, g8, x, y, rfl, rfl, Lib.hid ⟨Jx.out, Jy.out, by rw [← hSx.out, ← hSy.out]; exact HS.out.on RA2.out RB2.out⟩⟩
        · refine wpFk_call rfl (by rfl) (fun K hK => ?_)
          go_simp
          rw [signed_zero, ← hZS.out]
          have RN := Lib.hid (Row.made wc 34 ZS)
          have LO5 : Hid (w.heap.size + 1 + 1 < wc.heap.size) := Lib.hid HS.out.rk.lt
          have hb := (Below.refl wc.heap.size wc).alloc (Nat.le_refl _) (.cells ZS 34)
          replace HS := Lib.hid (HS.out.next hb)
          clear hb
          obtain ⟨g8, hg⟩ : ∃ g, g = wc.heap.size := ⟨_, rfl⟩
          obtain ⟨wn, hwn⟩ : ∃ X, X = wc.alloc (.cells ZS 34) := ⟨_, rfl⟩
          rw [← hg, ← hwn]
          rw [← hwn, ← hg] at RN
          rw [← hwn] at HS
          rw [← hg] at LO5
          have R5 := RN
          clear hg hwn RN
          obtain ⟨wc, hwc⟩ : ∃ X, X = wn := ⟨_, rfl⟩
          subst hwc
          refine hK _ _ HS.out ?_
          clear hK K
          refine wpFk_call rfl (by rfl) (fun K hK => ?_)
          go_simp
          rw [signed_zero, ← hZS.out]
          have RN := Lib.hid (Row.made wc 34 ZS)
          have LO4 : Hid (w.heap.size + 1 + 1 < wc.heap.size) := Lib.hid HS.out.rk.lt
          have hb := (Below.refl wc.heap.size wc).alloc (Nat.le_refl _) (.cells ZS 34)
          have NE : Hid (g8 ≠ wc.heap.size) := Lib.hid (Nat.ne_of_lt R5.out.lt)
          replace HS := Lib.hid (HS.out.next hb)
          replace R5 := Lib.hid (R5.out.next hb)
          clear hb
          obtain ⟨g7, hg⟩ : ∃ g, g = wc.heap.size := ⟨_, rfl⟩
          obtain ⟨wn, hwn⟩ : ∃ X, X = wc.alloc (.cells ZS 34) := ⟨_, rfl⟩
          rw [← hg, ← hwn]
          rw [← hwn, ← hg] at RN
          rw [← hwn] at HS
          rw [← hg] at LO4
          rw [← hwn] at R5
          rw [← hg] at NE
          have R4 := RN
          clear hg hwn RN
          obtain ⟨wc, hwc⟩ : ∃ X, X = wn := ⟨_, rfl⟩
          subst hwc
          refine hK _ _ HS.out ?_
          clear hK K
          refine wpFk_call rfl (by rfl) (fun K hK => ?_)
          have s6 := R4.out.writeG zZ.out.1 zx.out.1 zx.out.2
          go_simp
          clear s6
          have HF := Lib.hid (HS.out.set HA0.out HB0.out HT0.out g7 LO4.out Sx)
          have RA := Lib.hid (R4.out.whole Sx)
          have RB := Lib.hid (R5.out.wfar (by first | exact NE.out | exact NE.out.symm) Sx)
          clear HS R4 R5
          have HS := HF
          clear HF
          refine hK _ _ HS.out ?_
          clear hK K
          refine wpFk_call rfl (by rfl) (fun K hK => ?_)
          have s7 := RB.out.writeG zZ.out.1 zy.out.1 zy.out.2
          go_simp
          clear s7
          have HF := Lib.hid (HS.out.set HA0.out HB0.out HT0.out g8 LO5.out Sy)
          have RB2 := Lib.hid (RB.out.whole Sy)
          have RA2 := Lib.hid (RA.out.wfar (by first | exact NE.out | exact NE.out.symm) Sy)
          clear HS RA RB
          have HS := HF
          clear HF
          refine hK _ _ HS.out ?_
          clear hK K
          refine wpFk_done ?_
          refine HQ.out _ _ ?_
          clear HQ
          go_wp2
          go_meet
          exact ⟨g7, g8, x, y, rfl, rfl, Lib.hid ⟨Jx.out, Jy.out, by rw [← hSx.out, ← hSy.out]; exact HS.out.on RA2.out RB2.out⟩⟩
      · refine wpFk_call rfl (by rfl) (fun K hK => ?_)
        go_simp
        rw [signed_zero, ← hZS.out]
        have RN := Lib.hid (Row.made wc 34 ZS)
        have LO4 : Hid (w.heap.size + 1 + 1 < wc.heap.size) := Lib.hid HS.out.rk.lt
        have hb := (Below.refl wc.heap.size wc).alloc (Nat.le_refl _) (.cells ZS 34)
        replace HS := Lib.hid (HS.out.next hb)
        clear hb
        obtain ⟨g7, hg⟩ : ∃ g, g = wc.heap.size := ⟨_, rfl⟩
        obtain ⟨wn, hwn⟩ : ∃ X, X = wc.alloc (.cells ZS 34) := ⟨_, rfl⟩
        rw [← hg, ← hwn]
        rw [← hwn, ← hg] at RN
        rw [← hwn] at HS
        rw [← hg] at LO4
        have R4 := RN
        clear hg hwn RN
        obtain ⟨wc, hwc⟩ : ∃ X, X = wn := ⟨_, rfl⟩
        subst hwc
        refine hK _ _ HS.out ?_
        clear hK K
        refine wpFk_fork ?_ ?_
        · refine wpFk_call rfl (by rfl) (fun K hK => ?_)
          go_simp
          go_at_call 9
          (with_reducible refine (XSY.out _).mono ?_)
          rintro e wc ⟨y, Jy, rfl, hb⟩
          replace Jy := Lib.hid Jy
          replace HS := Lib.hid (HS.out.next hb)
          replace R4 := Lib.hid (R4.out.next hb)
          clear hb
          have zy := Lib.hid (xS.out y B d (.inr Jy.out.1.2.1))
          obtain ⟨Sy, hSy⟩ : ∃ C, Hid (C = shV y B d) := ⟨_, Lib.hid rfl⟩
          rw [← hSy.out] at zy ⊢
          refine hK _ _ HS.out ?_
          clear hK K
          refine wpFk_call rfl (by rfl) (fun K hK => ?_)
          go_simp
          rw [signed_zero, ← hZS.out]
          have RN := Lib.hid (Row.made wc 34 ZS)
          have LO5 : Hid (w.heap.size + 1 + 1 < wc.heap.size) := Lib.hid HS.out.rk.lt
          have hb := (Below.refl wc.heap.size wc).alloc (Nat.le_refl _) (.cells ZS 34)
          have NE : Hid (g7 ≠ wc.heap.size) := Lib.hid (Nat.ne_of_lt R4.out.lt)
          replace HS := Lib.hid (HS.out.next hb)
          replace R4 := Lib.hid (R4.out.next hb)
          clear hb
          obtain ⟨g8, hg⟩ : ∃ g, g = wc.heap.size := ⟨_, rfl⟩
          obtain ⟨wn, hwn⟩ : ∃ X, X = wc.alloc (.cells ZS 34) := ⟨_, rfl⟩
          rw [← hg, ← hwn]
          rw [← hwn, ← hg] at RN
          rw [← hwn] at HS
          rw [← hg] at LO5
          rw [← hwn] at R4
          rw [← hg] at NE
          have R5 := RN
          clear hg hwn RN
          obtain ⟨wc, hwc⟩ : ∃ X, X = wn := ⟨_, rfl⟩
          subst hwc
          refine hK _ _ HS.out ?_
          clear hK K
          refine wpFk_call rfl (by rfl) (fun K hK => ?_)
          have s6 := R4.out.writeG zZ.out.1 zx.out.1 zx.out.2
          go_simp
          clear s6
          have HF := Lib.hid (HS.out.set HA0.out HB0.out HT0.out g7 LO4.out Sx)
          have RA := Lib.hid (R4.out.whole Sx)
          have RB := Lib.hid (R5.out.wfar (by first | exact NE.out | exact NE.out.symm) Sx)
          clear HS R4 R5
          have HS := HF
          clear HF
          refine hK _ _ HS.out ?_
          clear hK K
          refine wpFk_call rfl (by rfl) (fun K hK => ?_)
          have s7 := RB.out.writeG zZ.out.1 zy.out.1 zy.out.2
          go_simp
          clear s7
          have HF := Lib.hid (HS.out.set HA0.out HB0.out HT0.out g8 LO5.out Sy)
          have RB2 := Lib.hid (RB.out.whole Sy)
          have RA2 := Lib.hid (RA.out.wfar (by first | exact NE.out | exact NE.out.symm) Sy)
          clear HS RA RB
          have HS := HF
          clear HF
          refine hK _ _ HS.out ?_
          clear hK K
          refine wpFk_done ?_
          refine HQ.out _ _ ?_
          clear HQ
          go_wp2
          go_meet
          exact ⟨g7, g8, x, y, rfl, rfl, Lib.hid ⟨Jx.out, Jy.out, by rw [← hSx.out, ← hSy.out]; exact HS.out.on RA2.out RB2.out⟩⟩
        · refine wpFk_call rfl (by rfl) (fun K hK => ?_)
          go_simp
          rw [signed_zero, ← hZS.out]
          have RN := Lib.hid (Row.made wc 34 ZS)
          have LO5 : Hid (w.heap.size + 1 + 1 < wc.heap.size) := Lib.hid HS.out.rk.lt
          have hb := (Below.refl wc.heap.size wc).alloc (Nat.le_refl _) (.cells ZS 34)
          have NE : Hid (g7 ≠ wc.heap.size) := Lib.hid (Nat.ne_of_lt R4.out.lt)
          replace HS := Lib.hid (HS.out.next hb)
          replace R4 := Lib.hid (R4.out.next hb)
          clear hb
          obtain ⟨g8, hg⟩ : ∃ g, g = wc.heap.size := ⟨_, rfl⟩
          obtain ⟨wn, hwn⟩ : ∃ X, X = wc.alloc (.cells ZS 34) := ⟨_, rfl⟩
          rw [← hg, ← hwn]
          rw [← hwn, ← hg] at RN
          rw [← hwn] at HS
          rw [← hg] at LO5
          rw [← hwn] at R4
          rw [← hg] at NE
          have R5 := RN
          clear hg hwn RN
          obtain ⟨wc, hwc⟩ : ∃ X, X = wn := ⟨_, rfl⟩
          subst hwc
          refine hK _ _ HS.out ?_
          clear hK K
          refine wpFk_call rfl (by rfl) (fun K hK => ?_)
          go_simp
          go_at_call 9
          (with_reducible refine (XSY.out _).mono ?_)
          rintro e wc ⟨y, Jy, rfl, hb⟩
          replace Jy := Lib.hid Jy
          replace HS := Lib.hid (HS.out.next hb)
          replace R4 := Lib.hid (R4.out.next hb)
          replace R5 := Lib.hid (R5.out.next hb)
          clear hb
          have zy := Lib.hid (xS.out y B d (.inr Jy.out.1.2.1))
          obtain ⟨Sy, hSy⟩ : ∃ C, Hid (C = shV y B d) := ⟨_, Lib.hid rfl⟩
          rw [← hSy.out] at zy ⊢
          refine hK _ _ HS.out ?_
          clear hK K
          refine wpFk_call rfl (by rfl) (fun K hK => ?_)
          have s6 := R4.out.writeG zZ.out.1 zx.out.1 zx.out.2
          go_simp
          clear s6
          have HF := Lib.hid (HS.out.set HA0.out HB0.out HT0.out g7 LO4.out Sx)
          have RA := Lib.hid (R4.out.whole Sx)
          have RB := Lib.hid (R5.out.wfar (by first | exact NE.out | exact NE.out.symm) Sx)
          clear HS R4 R5
          have HS := HF
          clear HF
          refine hK _ _ HS.out ?_
          clear hK K
          refine wpFk_call rfl (by rfl) (fun K hK => ?_)
          have s7 := RB.out.writeG zZ.out.1 zy.out.1 zy.out.2
          go_simp
          clear s7
          have HF := Lib.hid (HS.out.set HA0.out HB0.out HT0.out g8 LO5.out Sy)
          have RB2 := Lib.hid (RB.out.whole Sy)
          have RA2 := Lib.hid (RA.out.wfar (by first | exact NE.out | exact NE.out.symm) Sy)
          clear HS RA RB
          have HS := HF
          clear HF
          refine hK _ _ HS.out ?_
          clear hK K
          refine wpFk_done ?_
          refine HQ.out _ _ ?_
          clear HQ
          go_wp2
          go_meet
          exact ⟨g7, g8, x, y, rfl, rfl, Lib.hid ⟨Jx.out, Jy.out, by rw [← hSx.out, ← hSy.out]; exact HS.out.on RA2.out RB2.out⟩⟩
      · refine wpFk_call rfl (by rfl) (fun K hK => ?_)
        go_simp
        rw [signed_zero, ← hZS.out]
        have RN := Lib.hid (Row.made wc 34 ZS)
        have LO5 : Hid (w.heap.size + 1 + 1 < wc.heap.size) := Lib.hid HS.out.rk.lt
        have hb := (Below.refl wc.heap.size wc).alloc (Nat.le_refl _) (.cells ZS 34)
        replace HS := Lib.hid (HS.out.next hb)
        clear hb
        obtain ⟨g8, hg⟩ : ∃ g, g = wc.heap.size := ⟨_, rfl⟩
        obtain ⟨wn, hwn⟩ : ∃ X, X = wc.alloc (.cells ZS 34) := ⟨_, rfl⟩
        rw [← hg, ← hwn]
        rw [← hwn, ← hg] at RN
        rw [← hwn] at HS
        rw [← hg] at LO5
        have R5 := RN
        clear hg hwn RN
        obtain ⟨wc, hwc⟩ : ∃ X, X = wn := ⟨_, rfl⟩
        subst hwc
        refine hK _ _ HS.out ?_
        clear hK K
        refine wpFk_fork ?_ ?_
        · refine wpFk_call rfl (by rfl) (fun K hK => ?_)
          go_simp
          go_at_call 9
          (with_reducible refine (XSY.out _).mono ?_)
          rintro e wc ⟨y, Jy, rfl, hb⟩
          replace Jy := Lib.hid Jy
          replace HS := Lib.hid (HS.out.next hb)
          replace R5 := Lib.hid (R5.out.next hb)
          clear hb
          have zy := Lib.hid (xS.out y B d (.inr Jy.out.1.2.1))
          obtain ⟨Sy, hSy⟩ : ∃ C, Hid (C = shV y B d) := ⟨_, Lib.hid rfl⟩
          rw [← hSy.out] at zy ⊢
          refine hK _ _ HS.out ?_
          clear hK K
          refine wpFk_call rfl (by rfl) (fun K hK => ?_)
          go_simp
          rw [signed_zero, ← hZS.out]
          have RN := Lib.hid (Row.made wc 34 ZS)
          have LO4 : Hid (w.heap.size + 1 + 1 < wc.heap.size) := Lib.hid HS.out.rk.lt
          have hb := (Below.refl wc.heap.size wc).alloc (Nat.le_refl _) (.cells ZS 34)
          have NE : Hid (g8 ≠ wc.heap.size) := Lib.hid (Nat.ne_of_lt R5.out.lt)
          replace HS := Lib.hid (HS.out.next hb)
          replace R5 := Lib.hid (R5.out.next hb)
          clear hb
          obtain ⟨g7, hg⟩ : ∃ g, g = wc.heap.size := ⟨_, rfl⟩
          obtain ⟨wn, hwn⟩ : ∃ X, X = wc.alloc (.cells ZS 34) := ⟨_, rfl⟩
          rw [← hg, ← hwn]
          rw [← hwn, ← hg] at RN
          rw [← hwn] at HS
          rw [← hg] at LO4
          rw [← hwn] at R5
          rw [← hg] at NE
          have R4 := RN
          clear hg hwn RN
          obtain ⟨wc, hwc⟩ : ∃ X, X = wn := ⟨_, rfl⟩
          subst hwc
          refine hK _ _ HS.out ?_
          clear hK K
          refine wpFk_call rfl (by rfl) (fun K hK => ?_)
          have s6 := R4.out.writeG zZ.out.1 zx.out.1 zx.out.2
          go_simp
          clear s6
          have HF := Lib.hid (HS.out.set HA0.out HB0.out HT0.out g7 LO4.out Sx)
          have RA := Lib.hid (R4.out.whole Sx)
          have RB := Lib.hid (R5.out.wfar (by first | exact NE.out | exact NE.out.symm) Sx)
          clear HS R4 R5
          have HS := HF
          clear HF
          refine hK _ _ HS.out ?_
          clear hK K
          refine wpFk_call rfl (by rfl) (fun K hK => ?_)
          have s7 := RB.out.writeG zZ.out.1 zy.out.1 zy.out.2
          go_simp
          clear s7
          have HF := Lib.hid (HS.out.set HA0.out HB0.out HT0.out g8 LO5.out Sy)
          have RB2 := Lib.hid (RB.out.whole Sy)
          have RA2 := Lib.hid (RA.out.wfar (by first | exact NE.out | exact NE.out.symm) Sy)
          clear HS RA RB
          have HS := HF
          clear HF
          refine hK _ _ HS.out ?_
          clear hK K
          refine wpFk_done ?_
          refine HQ.out _ _ ?_
          clear HQ
          go_wp2
          go_meet
          exact ⟨g7, g8, x, y, rfl, rfl, Lib.hid ⟨Jx.out, Jy.out, by rw [← hSx.out, ← hSy.out]; exact HS.out.on RA2.out RB2.out⟩⟩
        · refine wpFk_call rfl (by rfl) (fun K hK => ?_)
          go_simp
          rw [signed_zero, ← hZS.out]
          have RN := Lib.hid (Row.made wc 34 ZS)
          have LO4 : Hid (w.heap.size + 1 + 1 < wc.heap.size) := Lib.hid HS.out.rk.lt
          have hb := (Below.refl wc.heap.size wc).alloc (Nat.le_refl _) (.cells ZS 34)
          have NE : Hid (g8 ≠ wc.heap.size) := Lib.hid (Nat.ne_of_lt R5.out.lt)
          replace HS := Lib.hid (HS.out.next hb)
          replace R5 := Lib.hid (R5.out.next hb)
          clear hb
          obtain ⟨g7, hg⟩ : ∃ g, g = wc.heap.size := ⟨_, rfl⟩
          obtain ⟨wn, hwn⟩ : ∃ X, X = wc.alloc (.cells ZS 34) := ⟨_, rfl⟩
          rw [← hg, ← hwn]
          rw [← hwn, ← hg] at RN
          rw [← hwn] at HS
          rw [← hg] at LO4
          rw [← hwn] at R5
          rw [← hg] at NE
          have R4 := RN
          clear hg hwn RN
          obtain ⟨wc, hwc⟩ : ∃ X, X = wn := ⟨_, rfl⟩
          subst hwc
          refine hK _ _ HS.out ?_
          clear hK K
          refine wpFk_call rfl (by rfl) (fun K hK => ?_)
          go_simp
          go_at_call 9
          (with_reducible refine (XSY.out _).mono ?_)
          rintro e wc ⟨y, Jy, rfl, hb⟩
          replace Jy := Lib.hid Jy
          replace HS := Lib.hid (HS.out.next hb)
          replace R4 := Lib.hid (R4.out.next hb)
          replace R5 := Lib.hid (R5.out.next hb)
          clear hb
          have zy := Lib.hid (xS.out y B d (.inr Jy.out.1.2.1))
          obtain ⟨Sy, hSy⟩ : ∃ C, Hid (C = shV y B d) := ⟨_, Lib.hid rfl⟩
          rw [← hSy.out] at zy ⊢
          refine hK _ _ HS.out ?_
          clear hK K
          refine wpFk_call rfl (by rfl) (fun K hK => ?_)
          have s6 := R4.out.writeG zZ.out.1 zx.out.1 zx.out.2
          go_simp
          clear s6
          have HF := Lib.hid (HS.out.set HA0.out HB0.out HT0.out g7 LO4.out Sx)
          have RA := Lib.hid (R4.out.whole Sx)
          have RB := Lib.hid (R5.out.wfar (by first | exact NE.out | exact NE.out.symm) Sx)
          clear HS R4 R5
          have HS := HF
          clear HF
          refine hK _ _ HS.out ?_
          clear hK K
          refine wpFk_call rfl (by rfl) (fun K hK => ?_)
          have s7 := RB.out.writeG zZ.out.1 zy.out.1 zy.out.2
          go_simp
          clear s7
          have HF := Lib.hid (HS.out.set HA0.out HB0.out HT0.out g8 LO5.out Sy)
          have RB2 := Lib.hid (RB.out.whole Sy)
          have RA2 := Lib.hid (RA.out.wfar (by first | exact NE.out | exact NE.out.symm) Sy)
          clear HS RA RB
          have HS := HF
          clear HF
          refine hK _ _ HS.out ?_
          clear hK K
          refine wpFk_done ?_
          refine HQ.out _ _ ?_
          clear HQ
          go_wp2
          go_meet
          exact ⟨g7, g8, x, y, rfl, rfl, Lib.hid ⟨Jx.out, Jy.out, by rw [← hSx.out, ← hSy.out]; exact HS.out.on RA2.out RB2.out⟩⟩
    · refine wpFk_call rfl (by rfl) (fun K hK => ?_)
      go_simp
      rw [signed_zero, ← hZS.out]
      have RN := Lib.hid (Row.made wc 34 ZS)
      have LO4 : Hid (w.heap.size + 1 + 1 < wc.heap.size) := Lib.hid HS.out.rk.lt
      have hb := (Below.refl wc.heap.size wc).alloc (Nat.le_refl _) (.cells ZS 34)
      replace HS := Lib.hid (HS.out.next hb)
      clear hb
      obtain ⟨g7, hg⟩ : ∃ g, g = wc.heap.size := ⟨_, rfl⟩
      obtain ⟨wn, hwn⟩ : ∃ X, X = wc.alloc (.cells ZS 34) := ⟨_, rfl⟩
      rw [← hg, ← hwn]
      rw [← hwn, ← hg] at RN
      rw [← hwn] at HS
      rw [← hg] at LO4
      have R4 := RN
      clear hg hwn RN
      obtain ⟨wc, hwc⟩ : ∃ X, X = wn := ⟨_, rfl⟩
      subst hwc
      refine hK _ _ HS.out ?_
      clear hK K
      refine wpFk_fork ?_ ?_
      · refine wpFk_call rfl (by rfl) (fun K hK => ?_)
        go_simp
        go_at_call 9
        (with_reducible refine (XSX.out _).mono ?_)
        rintro e wc ⟨x, Jx, rfl, hb⟩
        replace Jx := Lib.hid Jx
        replace HS := Lib.hid (HS.out.next hb)
        replace R4 := Lib.hid (R4.out.next hb)
        clear hb
        have zx := Lib.hid (xS.out x A c (.inl Jx.out.1.2.1))
        obtain ⟨Sx, hSx⟩ : ∃ C, Hid (C = shV x A c) := ⟨_, Lib.hid rfl⟩
        rw [← hSx.out] at zx ⊢
        refine hK _ _ HS.out ?_
        clear hK K
        refine wpFk_fork ?_ ?_
        · refine wpFk_call rfl (by rfl) (fun K hK => ?_)
          go_simp
          go_at_call 9
          (with_reducible refine (XSY.out _).mono ?_)
          rintro e wc ⟨y, Jy, rfl, hb⟩
          replace Jy := Lib.hid Jy
          replace HS := Lib.hid (HS.out.next hb)
          replace R4 := Lib.hid (R4.out.next hb)
          clear hb
          have zy := Lib.hid (xS.out y B d (.inr Jy.out.1.2.1))
          obtain ⟨Sy, hSy⟩ : ∃ C, Hid (C = shV y B d) := ⟨_, Lib.hid rfl⟩
          rw [← hSy.out] at zy ⊢
          refine hK _ _ HS.out ?_
          clear hK K
          refine wpFk_call rfl (by rfl) (fun K hK => ?_)
          go_simp
          rw [signed_zero, ← hZS.out]
          have RN := Lib.hid (Row.made wc 34 ZS)
          have LO5 : Hid (w.heap.size + 1 + 1 < wc.heap.size) := Lib.hid HS.out.rk.lt
          have hb := (Below.refl wc.heap.size wc).alloc (Nat.le_refl _) (.cells ZS 34)
          have NE : Hid (g7 ≠ wc.heap.size) := Lib.hid (Nat.ne_of_lt R4.out.lt)
          replace HS := Lib.hid (HS.out.next hb)
          replace R4 := Lib.hid (R4.out.next hb)
          clear hb
          obtain ⟨g8, hg⟩ : ∃ g, g = wc.heap.size := ⟨_, rfl⟩
          obtain ⟨wn, hwn⟩ : ∃ X, X = wc.alloc (.cells ZS 34) := ⟨_, rfl⟩
          rw [← hg, ← hwn]
          rw [← hwn, ← hg] at RN
          rw [← hwn] at HS
          rw [← hg] at LO5
          rw [← hwn] at R4
          rw [← hg] at NE
          have R5 := RN
          clear hg hwn RN
          obtain ⟨wc, hwc⟩ : ∃ X, X = wn := ⟨_, rfl⟩
          subst hwc
          refine hK _ _ HS.out ?_
          clear hK K
          refine wpFk_call rfl (by rfl) (fun K hK => ?_)
          have s6 := R4.out.writeG zZ.out.1 zx.out.1 zx.out.2
          go_simp
          clear s6
          have HF := Lib.hid (HS.out.set HA0.out HB0.out HT0.out g7 LO4.out Sx)
          have RA := Lib.hid (R4.out.whole Sx)
          have RB := Lib.hid (R5.out.wfar (by first | exact NE.out | exact NE.out.symm) Sx)
          clear HS R4 R5
          have HS := HF
          clear HF
          refine hK _ _ HS.out ?_
          clear hK K
          refine wpFk_call rfl (by rfl) (fun K hK => ?_)
          have s7 := RB.out.writeG zZ.out.1 zy.out.1 zy.out.2
          go_simp
          clear s7
          have HF := Lib.hid (HS.out.set HA0.out HB0.out HT0.out g8 LO5.out Sy)
          have RB2 := Lib.hid (RB.out.whole Sy)
          have RA2 := Lib.hid (RA.out.wfar (by first | exact NE.out | exact NE.out.symm) Sy)
          clear HS RA RB
          have HS := HF
          clear HF
          refine hK _ _ HS.out ?_
          clear hK K
          refine wpFk_done ?_
          refine HQ.out _ _ ?_
          clear HQ
          go_wp2
          go_meet
          exact ⟨g7, g8, x, y, rfl, rfl, Lib.hid ⟨Jx.out, Jy.out, by rw [← hSx.out, ← hSy.out]; exact HS.out.on RA2.out RB2.out⟩⟩
        · refine wpFk_call rfl (by rfl) (fun K hK => ?_)
          go_simp
          rw [signed_zero, ← hZS.out]
          have RN := Lib.hid (Row.made wc 34 ZS)
          have LO5 : Hid (w.heap.size + 1 + 1 < wc.heap.size) := Lib.hid HS.out.rk.lt
          have hb := (Below.refl wc.heap.size wc).alloc (Nat.le_refl _) (.cells ZS 34)
          have NE : Hid (g7 ≠ wc.heap.size) := Lib.hid (Nat.ne_of_lt R4.out.lt)
          replace HS := Lib.hid (HS.out.next hb)
          replace R4 := Lib.hid (R4.out.next hb)
          clear hb
          obtain ⟨g8, hg⟩ : ∃ g, g = wc.heap.size := ⟨_, rfl⟩
          obtain ⟨wn, hwn⟩ : ∃ X, X = wc.alloc (.cells ZS 34) := ⟨_, rfl⟩
          rw [← hg, ← hwn]
          rw [← hwn, ← hg] at RN
          rw [← hwn] at HS
          rw [← hg] at LO5
          rw [← hwn] at R4
          rw [← hg] at NE
          have R5 := RN
          clear hg hwn RN
          obtain ⟨wc, hwc⟩ : ∃ X, X = wn := ⟨_, rfl⟩
          subst hwc
          refine hK _ _ HS.out ?_
          clear hK K
          refine wpFk_call rfl (by rfl) (fun K hK => ?_)
          go_simp
          go_at_call 9
          (with_reducible refine (XSY.out _).mono ?_)
          rintro e wc ⟨y, Jy, rfl, hb⟩
          replace Jy := Lib.hid Jy
          replace HS := Lib.hid (HS.out.next hb)
          replace R4 := Lib.hid (R4.out.next hb)
          replace R5 := Lib.hid (R5.out.next hb)
          clear hb
          have zy := Lib.hid (xS.out y B d (.inr Jy.out.1.2.1))
          obtain ⟨Sy, hSy⟩ : ∃ C, Hid (C = shV y B d) := ⟨_, Lib.hid rfl⟩
          rw [← hSy.out] at zy ⊢
          refine hK _ _ HS.out ?_
          clear hK K
          refine wpFk_call rfl (by rfl) (fun K hK => ?_)
          have s6 := R4.out.writeG zZ.out.1 zx.out.1 zx.out.2
          go_simp
          clear s6
          have HF := Lib.hid (HS.out.set HA0.out HB0.out HT0.out g7 LO4.out Sx)
          have RA := Lib.hid (R4.out.whole Sx)
          have RB := Lib.hid (R5.out.wfar (by first | exact NE.out | exact NE.out.symm) Sx)
          clear HS R4 R5
          have HS := HF
          clear HF
          refine hK _ _ HS.out ?_
          clear hK K
          refine wpFk_call rfl (by rfl) (fun K hK => ?_)
          have s7 := RB.out.writeG zZ.out.1 zy.out.1 zy.out.2
          go_simp
          clear s7
          have HF := Lib.hid (HS.out.set HA0.out HB0.out HT0.out g8 LO5.out Sy)
          have RB2 := Lib.hid (RB.out.whole Sy)
          have RA2 := Lib.hid (RA.out.wfar (by first | exact NE.out | exact NE.out.symm) Sy)
          clear HS RA RB
          have HS := HF
          clear HF
          refine hK _ _ HS.out ?_
          clear hK K
          refine wpFk_done ?_
          refine HQ.out _ _ ?_
          clear HQ
          go_wp2
          go_meet
          exact ⟨g7, g8, x, y, rfl, rfl, Lib.hid ⟨Jx.out, Jy.out, by rw [← hSx.out, ← hSy.out]; exact HS.out.on RA2.out RB2.out⟩⟩
      · refine wpFk_call rfl (by rfl) (fun K hK => ?_)
        go_simp
        rw [signed_zero, ← hZS.out]
        have RN := Lib.hid (Row.made wc 34 ZS)
        have LO5 : Hid (w.heap.size + 1 + 1 < wc.heap.size) := Lib.hid HS.out.rk.lt
        have hb := (Below.refl wc.heap.size wc).alloc (Nat.le_refl _) (.cells ZS 34)
        have NE : Hid (g7 ≠ wc.heap.size) := Lib.hid (Nat.ne_of_lt R4.out.lt)
        replace HS := Lib.hid (HS.out.next hb)
        replace R4 := Lib.hid (R4.out.next hb)
        clear hb
        obtain ⟨g8, hg⟩ : ∃ g, g = wc.heap.size := ⟨_, rfl⟩
        obtain ⟨wn, hwn⟩ : ∃ X, X = wc.alloc (.cells ZS 34) := ⟨_, rfl⟩
        rw [← hg, ← hwn]
        rw [← hwn, ← hg] at RN
        rw [← hwn] at HS
        rw [← hg] at LO5
        rw [← hwn] at R4
        rw [← hg] at NE
        have R5 := RN
        clear hg hwn RN
        obtain ⟨wc, hwc⟩ : ∃ X, X = wn := ⟨_, rfl⟩
        subst hwc
        refine hK _ _ HS.out ?_
        clear hK K
        refine wpFk_call rfl (by rfl) (fun K hK => ?_)
        go_simp
        go_at_call 9
        (with_reducible refine (XSX.out _).mono ?_)
        rintro e wc ⟨x, Jx, rfl, hb⟩
        replace Jx := Lib.hid Jx
        replace HS := Lib.hid (HS.out.next hb)
        replace R4 := Lib.hid (R4.out.next hb)
        replace R5 := Lib.hid (R5.out.next hb)
        clear hb
        have zx := Lib.hid (xS.out x A c (.inl Jx.out.1.2.1))
        obtain ⟨Sx, hSx⟩ : ∃ C, Hid (C = shV x A c) := ⟨_, Lib.hid rfl⟩
        rw [← hSx.out] at zx ⊢
        refine hK _ _ HS.out ?_
        clear hK K
        refine wpFk_call rfl (by rfl) (fun K hK => ?_)
        go_simp
        go_at_call 9
        (with_reducible refine (XSY.out _).mono ?_)
        rintro e wc ⟨y, Jy, rfl, hb⟩
        replace Jy := Lib.hid Jy
        replace HS := Lib.hid (HS.out.next hb)
        replace R4 := Lib.hid (R4.out.next hb)
        replace R5 := Lib.hid (R5.out.next hb)
        clear hb
        have zy := Lib.hid (xS.out y B d (.inr Jy.out.1.2.1))
        obtain ⟨Sy, hSy⟩ : ∃ C, Hid (C = shV y B d) := ⟨_, Lib.hid rfl⟩
        rw [← hSy.out] at zy ⊢
        refine hK _ _ HS.out ?_
        clear hK K
        refine wpFk_call rfl (by rfl) (fun K hK => ?_)
        have s6 := R4.out.writeG zZ.out.1 zx.out.1 zx.out.2
        go_simp
        clear s6
        have HF := Lib.hid (HS.out.set HA0.out HB0.out HT0.out g7 LO4.out Sx)
        have RA := Lib.hid (R4.out.whole Sx)
        have RB := Lib.hid (R5.out.wfar (by first | exact NE.out | exact NE.out.symm) Sx)
        clear HS R4 R5
        have HS := HF
        clear HF
        refine hK _ _ HS.out ?_
        clear hK K
        refine wpFk_call rfl (by rfl) (fun K hK => ?_)
        have s7 := RB.out.writeG zZ.out.1 zy.out.1 zy.out.2
        go_simp
        clear s7
        have HF := Lib.hid (HS.out.set HA0.out HB0.out HT0.out g8 LO5.out Sy)
        have RB2 := Lib.hid (RB.out.whole Sy)
        have RA2 := Lib.hid (RA.out.wfar (by first | exact NE.out | exact NE.out.symm) Sy)
        clear HS RA RB
        have HS := HF
        clear HF
        refine hK _ _ HS.out ?_
        clear hK K
        refine wpFk_done ?_
        refine HQ.out _ _ ?_
        clear HQ
        go_wp2
        go_meet
        exact ⟨g7, g8, x, y, rfl, rfl, Lib.hid ⟨Jx.out, Jy.out, by rw [← hSx.out, ← hSy.out]; exact HS.out.on RA2.out RB2.out⟩⟩
    · refine wpFk_call rfl (by rfl) (fun K hK => ?_)
      go_simp
      rw [signed_zero, ← hZS.out]
      have RN := Lib.hid (Row.made wc 34 ZS)
      have LO5 : Hid (w.heap.size + 1 + 1 < wc.heap.size) := Lib.hid HS.out.rk.lt
      have hb := (Below.refl wc.heap.size wc).alloc (Nat.le_refl _) (.cells ZS 34)
      replace HS := Lib.hid (HS.out.next hb)
      clear hb
      obtain ⟨g8, hg⟩ : ∃ g, g = wc.heap.size := ⟨_, rfl⟩
      obtain ⟨wn, hwn⟩ : ∃ X, X = wc.alloc (.cells ZS 34) := ⟨_, rfl⟩
      rw [← hg, ← hwn]
      rw [← hwn, ← hg] at RN
      rw [← hwn] at HS
      rw [← hg] at LO5
      have R5 := RN
      clear hg hwn RN
      obtain ⟨wc, hwc⟩ : ∃ X, X = wn := ⟨_, rfl⟩
      subst hwc
      refine hK _ _ HS.out ?_
      clear hK K
      refine wpFk_fork ?_ ?_
      · refine wpFk_call rfl (by rfl) (fun K hK => ?_)
        go_simp
        go_at_call 9
        (with_reducible refine (XSX.out _).mono ?_)
        rintro e wc ⟨x, Jx, rfl, hb⟩
        replace Jx := Lib.hid Jx
        replace HS := Lib.hid (HS.out.next hb)
        replace R5 := Lib.hid (R5.out.next hb)
        clear hb
        have zx := Lib.hid (xS.out x A c (.inl Jx.out.1.2.1))
        obtain ⟨Sx, hSx⟩ : ∃ C, Hid (C = shV x A c) := ⟨_, Lib.hid rfl⟩
        rw [← hSx.out] at zx ⊢
        refine hK _ _ HS.out ?_
        clear hK K
        refine wpFk_fork ?_ ?_
        · refine wpFk_call rfl (by rfl) (fun K hK => ?_)
          go_simp
          go_at_call 9
          (with_reducible refine (XSY.out _).mono ?_)
          rintro e wc ⟨y, Jy, rfl, hb⟩
          replace Jy := Lib.hid Jy
          replace HS := Lib.hid (HS.out.next hb)
          replace R5 := Lib.hid (R5.out.next hb)
          clear hb
          have zy := Lib.hid (xS.out y B d (.inr Jy.out.1.2.1))
          obtain ⟨Sy, hSy⟩ : ∃ C, Hid (C = shV y B d) := ⟨_, Lib.hid rfl⟩
          rw [← hSy.out] at zy ⊢
          refine hK _ _ HS.out ?_
          clear hK K
          refine wpFk_call rfl (by rfl) (fun K hK => ?_)
          go_simp
          rw [signed_zero, ← hZS.out]
          have RN := Lib.hid (Row.made wc 34 ZS)
          have LO4 : Hid (w.heap.size + 1 + 1 < wc.heap.size) := Lib.hid HS.out.rk.lt
          have hb := (Below.refl wc.heap.size wc).alloc (Nat.le_refl _) (.cells ZS 34)
          have NE : Hid (g8 ≠ wc.heap.size) := Lib.hid (Nat.ne_of_lt R5.out.lt)
          replace HS := Lib.hid (HS.out.next hb)
          replace R5 := Lib.hid (R5.out.next hb)
          clear hb
          obtain ⟨g7, hg⟩ : ∃ g, g = wc.heap.size := ⟨_, rfl⟩
          obtain ⟨wn, hwn⟩ : ∃ X, X = wc.alloc (.cells ZS 34) := ⟨_, rfl⟩
          rw [← hg, ← hwn]
          rw [← hwn, ← hg] at RN
          rw [← hwn] at HS
          rw [← hg] at LO4
          rw [← hwn] at R5
          rw [← hg] at NE
          have R4 := RN
          clear hg hwn RN
          obtain ⟨wc, hwc⟩ : ∃ X, X = wn := ⟨_, rfl⟩
          subst hwc
          refine hK _ _ HS.out ?_
          clear hK K
          refine wpFk_call rfl (by rfl) (fun K hK => ?_)
          have s6 := R4.out.writeG zZ.out.1 zx.out.1 zx.out.2
          go_simp
          clear s6
          have HF := Lib.hid (HS.out.set HA0.out HB0.out HT0.out g7 LO4.out Sx)
          have RA := Lib.hid (R4.out.whole Sx)
          have RB := Lib.hid (R5.out.wfar (by first | exact NE.out | exact NE.out.symm) Sx)
          clear HS R4 R5
          have HS := HF
          clear HF
          refine hK _ _ HS.out ?_
          clear hK K
          refine wpFk_call rfl (by rfl) (fun K hK => ?_)
          have s7 := RB.out.writeG zZ.out.1 zy.out.1 zy.out.2
          go_simp
          clear s7
          have HF := Lib.hid (HS.out.set HA0.out HB0.out HT0.out g8 LO5.out Sy)
          have RB2 := Lib.hid (RB.out.whole Sy)
          have RA2 := Lib.hid (RA.out.wfar (by first | exact NE.out | exact NE.out.symm) Sy)
          clear HS RA RB
          have HS := HF
          clear HF
          refine hK _ _ HS.out ?_
          clear hK K
          refine wpFk_done ?_
          refine HQ.out _ _ ?_
          clear HQ
          go_wp2
          go_meet
          exact ⟨g7, g8, x, y, rfl, rfl, Lib.hid ⟨Jx.out, Jy.out, by rw [← hSx.out, ← hSy.out]; exact HS.out.on RA2.out RB2.out⟩⟩
        · refine wpFk_call rfl (by rfl) (fun K hK => ?_)
          go_simp
          rw [signed_zero, ← hZS.out]
          have RN := Lib.hid (Row.made wc 34 ZS)
          have LO4 : Hid (w.heap.size + 1 + 1 < wc.heap.size) := Lib.hid HS.out.rk.lt
          have hb := (Below.refl wc.heap.size wc).alloc (Nat.le_refl _) (.cells ZS 34)
          have NE : Hid (g8 ≠ wc.heap.size) := Lib.hid (Nat.ne_of_lt R5.out.lt)
          replace HS := Lib.hid (HS.out.next hb)
          replace R5 := Lib.hid (R5.out.next hb)
          clear hb
          obtain ⟨g7, hg⟩ : ∃ g, g = wc.heap.size := ⟨_, rfl⟩
          obtain ⟨wn, hwn⟩ : ∃ X, X = wc.alloc (.cells ZS 34) := ⟨_, rfl⟩
          rw [← hg, ← hwn]
          rw [← hwn, ← hg] at RN
          rw [← hwn] at HS
          rw [← hg] at LO4
          rw [← hwn] at R5
          rw [← hg] at NE
          have R4 := RN
          clear hg hwn RN
          obtain ⟨wc, hwc⟩ : ∃ X, X = wn := ⟨_, rfl⟩
          subst hwc
          refine hK _ _ HS.out ?_
          clear hK K
          refine wpFk_call rfl (by rfl) (fun K hK => ?_)
          go_simp
          go_at_call 9
          (with_reducible refine (XSY.out _).mono ?_)
          rintro e wc ⟨y, Jy, rfl, hb⟩
          replace Jy := Lib.hid Jy
          replace HS := Lib.hid (HS.out.next hb)
          replace R4 := Lib.hid (R4.out.next hb)
          replace R5 := Lib.hid (R5.out.next hb)
          clear hb
          have zy := Lib.hid (xS.out y B d (.inr Jy.out.1.2.1))
          obtain ⟨Sy, hSy⟩ : ∃ C, Hid (C = shV y B d) := ⟨_, Lib.hid rfl⟩
          rw [← hSy.out] at zy ⊢
          refine hK _ _ HS.out ?_
          clear hK K
          refine wpFk_call rfl (by rfl) (fun K hK => ?_)
          have s6 := R4.out.writeG zZ.out.1 zx.out.1 zx.out.2
          go_simp
          clear s6
          have HF := Lib.hid (HS.out.set HA0.out HB0.out HT0.out g7 LO4.out Sx)
          have RA := Lib.hid (R4.out.whole Sx)
          have RB := Lib.hid (R5.out.wfar (by first | exact NE.out | exact NE.out.symm) Sx)
          clear HS R4 R5
          have HS := HF
          clear HF
          refine hK _ _ HS.out ?_
          clear hK K
          refine wpFk_call rfl (by rfl) (fun K hK => ?_)
          have s7 := RB.out.writeG zZ.out.1 zy.out.1 zy.out.2
          go_simp
          clear s7
          have HF := Lib.hid (HS.out.set HA0.out HB0.out HT0.out g8 LO5.out Sy)
          have RB2 := Lib.hid (RB.out.whole Sy)
          have RA2 := Lib.hid (RA.out.wfar (by first | exact NE.out | exact NE.out.symm) Sy)
          clear HS RA RB
          have HS := HF
          clear HF
          refine hK _ _ HS.out ?_
          clear hK K
          refine wpFk_done ?_
          refine HQ.out _ _ ?_
          clear HQ
          go_wp2
          go_meet
          exact ⟨g7, g8, x, y, rfl, rfl, Lib.hid ⟨Jx.out, Jy.out, by rw [← hSx.out, ← hSy.out]; exact HS.out.on RA2.out RB2.out⟩⟩
      · refine wpFk_call rfl (by rfl) (fun K hK => ?_)
        go_simp
        rw [signed_zero, ← hZS.out]
        have RN := Lib.hid (Row.made wc 34 ZS)
        have LO4 : Hid (w.heap.size + 1 + 1 < wc.heap.size) := Lib.hid HS.out.rk.lt
        have hb := (Below.refl wc.heap.size wc).alloc (Nat.le_refl _) (.cells ZS 34)
        have NE : Hid (g8 ≠ wc.heap.size) := Lib.hid (Nat.ne_of_lt R5.out.lt)
        replace HS := Lib.hid (HS.out.next hb)
        replace R5 := Lib.hid (R5.out.next hb)
        clear hb
        obtain ⟨g7, hg⟩ : ∃ g, g = wc.heap.size := ⟨_, rfl⟩
        obtain ⟨wn, hwn⟩ : ∃ X, X = wc.alloc (.cells ZS 34) := ⟨_, rfl⟩
        rw [← hg, ← hwn]
        rw [← hwn, ← hg] at RN
        rw [← hwn] at HS
        rw [← hg] at LO4
        rw [← hwn] at R5
        rw [← hg] at NE
        have R4 := RN
        clear hg hwn RN
        obtain ⟨wc, hwc⟩ : ∃ X, X = wn := ⟨_, rfl⟩
        subst hwc
        refine hK _ _ HS.out ?_
        clear hK K
        refine wpFk_call rfl (by rfl) (fun K hK => ?_)
        go_simp
        go_at_call 9
        (with_reducible refine (XSX.out _).mono ?_)
        rintro e wc ⟨x, Jx, rfl, hb⟩
        replace Jx := Lib.hid Jx
        replace HS := Lib.hid (HS.out.next hb)
        replace R4 := Lib.hid (R4.out.next hb)
        replace R5 := Lib.hid (R5.out.next hb)
        clear hb
        have zx := Lib.hid (xS.out x A c (.inl Jx.out.1.2.1))
        obtain ⟨Sx, hSx⟩ : ∃ C, Hid (C = shV x A c) := ⟨_, Lib.hid rfl⟩
        rw [← hSx.out] at zx ⊢
        refine hK _ _ HS.out ?_
        clear hK K
        refine wpFk_call rfl (by rfl) (fun K hK => ?_)
        go_simp
        go_at_call 9
        (with_reducible refine (XSY.out _).mono ?_)
        rintro e wc ⟨y, Jy, rfl, hb⟩
        replace Jy := Lib.hid Jy
        replace HS := Lib.hid (HS.out.next hb)
        replace R4 := Lib.hid (R4.out.next hb)
        replace R5 := Lib.hid (R5.out.next hb)
        clear hb
        have zy := Lib.hid (xS.out y B d (.inr Jy.out.1.2.1))
        obtain ⟨Sy, hSy⟩ : ∃ C, Hid (C = shV y B d) := ⟨_, Lib.hid rfl⟩
        rw [← hSy.out] at zy ⊢
        refine hK _ _ HS.out ?_
        clear hK K
        refine wpFk_call rfl (by rfl) (fun K hK => ?_)
        have s6 := R4.out.writeG zZ.out.1 zx.out.1 zx.out.2
        go_simp
        clear s6
        have HF := Lib.hid (HS.out.set HA0.out HB0.out HT0.out g7 LO4.out Sx)
        have RA := Lib.hid (R4.out.whole Sx)
        have RB := Lib.hid (R5.out.wfar (by first | exact NE.out | exact NE.out.symm) Sx)
        clear HS R4 R5
        have HS := HF
        clear HF
        refine hK _ _ HS.out ?_
        clear hK K
        refine wpFk_call rfl (by rfl) (fun K hK => ?_)
        have s7 := RB.out.writeG zZ.out.1 zy.out.1 zy.out.2
        go_simp
        clear s7
        have HF := Lib.hid (HS.out.set HA0.out HB0.out HT0.out g8 LO5.out Sy)
        have RB2 := Lib.hid (RB.out.whole Sy)
        have RA2 := Lib.hid (RA.out.wfar (by first | exact NE.out | exact NE.out.symm) Sy)
        clear HS RA RB
        have HS := HF
        clear HF
        refine hK _ _ HS.out ?_
        clear hK K
        refine wpFk_done ?_
        refine HQ.out _ _ ?_
        clear HQ
        go_wp2
        go_meet
        exact ⟨g7, g8, x, y, rfl, rfl, Lib.hid ⟨Jx.out, Jy.out, by rw [← hSx.out, ← hSy.out]; exact HS.out.on RA2.out RB2.out⟩⟩
  case rest =>
  obtain ⟨g7, g8, x, y, rfl, rfl, HJ⟩ := hcut
  clear H2 GX GY XSX XSY xS zZ
  have ex := HJ.out.1.1
  have ey := HJ.out.2.1.1
  have HSX := Lib.hid HJ.out.1.2
  have HSY := Lib.hid HJ.out.2.1.2
  obtain ⟨p1, p2, p3, p4, p5, p6⟩ := HPX.out
  obtain ⟨q1, q2, q3, q4, q5, q6⟩ := HPY.out
  obtain ⟨SA, hSA⟩ : ∃ C, Hid (C = shV x A c) := ⟨_, Lib.hid rfl⟩
  obtain ⟨SB, hSB⟩ : ∃ C, Hid (C = shV y B d) := ⟨_, Lib.hid rfl⟩
  obtain ⟨HA, hHA⟩ : ∃ C, Hid (C = headV x.size x.root) := ⟨_, Lib.hid rfl⟩
  obtain ⟨HB, hHB⟩ : ∃ C, Hid (C = headV y.size y.root) := ⟨_, Lib.hid rfl⟩
  obtain ⟨DG, hDG⟩ : ∃ C, Hid (C = nums .u8 (digF x.size x.root)) := ⟨_, Lib.hid rfl⟩
  have H3 : Hid (TsH w K g7 g8 SA SB A xs B ys wc) := Lib.hid (by rw [hSA.out, hSB.out]; exact HJ.out.2.2)
  have hfx : x.fits := ⟨by rw [ex.2.1]; exact p2, by rw [ex.2.2.2]; exact p4⟩
  have hfy : y.fits := ⟨by rw [ey.2.1]; exact q2, by rw [ey.2.2.2]; exact q4⟩
  have sx64 : num64 x.size := by rw [ex.1]; exact p1
  have ix64 : num64 x.index := by rw [ex.2.2.1]; exact p3
  have sy64 : num64 y.size := by rw [ey.1]; exact q1
  have iy64 : num64 y.index := by rw [ey.2.2.1]; exact q3
  have lx : x.path.length ≤ c := by rw [ex.2.2.2]; exact p5
  have ly : y.path.length ≤ d := by rw [ey.2.2.2]; exact q5
  have gx : x.sig.size ≤ maxLen := Nat.le_trans HSX.out (by decide)
  have gy : y.sig.size ≤ maxLen := Nat.le_trans HSY.out (by decide)
  have lx63 : x.path.length ≤ 9223372036854775807 := Nat.le_trans lx (Nat.le_trans p6 (by decide))
  have ly63 : y.path.length ≤ 9223372036854775807 := Nat.le_trans ly (Nat.le_trans q6 (by decide))
  have LX : Hid (∀ W, HW W A xs → HW W A x.path) := Lib.hid fun W h => by rw [ex.2.2.2]; exact h
  have LY : Hid (∀ W, HW W B ys → HW W B y.path) := Lib.hid fun W h => by rw [ey.2.2.2]; exact h
  have INX : Hid (∀ W, HW W A xs → HeadIn W x A c) := Lib.hid fun W h => ⟨hfx, sx64, ix64, gx, LX.out W h, lx, p6⟩
  have INY : Hid (∀ W, HW W B ys → HeadIn W y B d) := Lib.hid fun W h => ⟨hfy, sy64, iy64, gy, LY.out W h, ly, q6⟩
  have GA : Hid (∀ W g, Row W g 34 SA → (readG (.pointer (some ⟨g, 0, none⟩))).run Tryd.prog W = .ok (.agg SA) W) := Lib.hid fun W g h => by rw [hSA.out] at h ⊢; exact signed_all h hfx.1.1
  have GB : Hid (∀ W g, Row W g 34 SB → (readG (.pointer (some ⟨g, 0, none⟩))).run Tryd.prog W = .ok (.agg SB) W) := Lib.hid fun W g h => by rw [hSB.out] at h ⊢; exact signed_all h hfy.1.1
  have DA : Hid (∀ W g, Row W g 34 SA → (readD (.pointer (some ⟨g, 0, none⟩))).run Tryd.prog W = .ok (.agg HA) W) := Lib.hid fun W g h => by rw [hSA.out] at h; rw [hHA.out]; exact signed_head h hfx.1.1
  have DB : Hid (∀ W g, Row W g 34 SB → (readD (.pointer (some ⟨g, 0, none⟩))).run Tryd.prog W = .ok (.agg HB) W) := Lib.hid fun W g h => by rw [hSB.out] at h; rw [hHB.out]; exact signed_head h hfy.1.1
  obtain ⟨T, hT⟩ : ∃ T, Hid (T = (putF x).1) := ⟨_, Lib.hid rfl⟩
  obtain ⟨P, hP⟩ : ∃ P, Hid (P = (putF x).2) := ⟨_, Lib.hid rfl⟩
  have XP : Hid (∀ W, Tab W → HW W A xs → Calls Tryd.prog 10 #[.agg SA] W fun e w' => e = .returned (.tuple #[.string T, .int .i64 P]) ∧ Below W.heap.size W w') := Lib.hid fun W h1 h2 => by rw [hSA.out, hT.out, hP.out]; exact HS.put x A c W h1 (INX.out W h2)
  have XQ : Hid (∀ W, HW W A xs → Calls Tryd.prog 11 #[.agg SA] W fun e w' => e = .returned (.tuple #[.string T, .int .i64 P]) ∧ Below W.heap.size W w') := Lib.hid fun W h2 => by rw [hSA.out, hT.out, hP.out]; exact refHeadPut_any x hfx A c W (LX.out W h2)
  have D1 : Hid (∀ W, Tab W → Calls Tryd.prog 12 #[.agg HA] W fun e w' => e = .returned (.agg DG) ∧ Below W.heap.size W w') := Lib.hid fun W h => by rw [hHA.out, hDG.out]; exact HS.digest x.size x.root W h sx64 hfx.1
  have D2 : Hid (∀ W, Calls Tryd.prog 13 #[.agg HA] W fun e w' => e = .returned (.agg DG) ∧ Below W.heap.size W w') := Lib.hid fun W => by rw [hHA.out, hDG.out]; exact refDigest_any x.size sx64 x.root hfx.1 W
  have NE0 : Hid (∀ W, (neqAt (.agg DG) (.agg DG)).run Tryd.prog W = .ok (.bool false) W) := Lib.hid fun W => by
    have hd := digF_is x.size x.root
    rw [hDG.out, neqAt_hash _ _ hd.1 hd.1 hd.2 hd.2 W, decide_eq_true rfl]; rfl
  obtain ⟨bv, hbv⟩ : ∃ b, Hid (b = decide x.ok) := ⟨_, Lib.hid rfl⟩
  have V1 : Hid (∀ W, Tab W → HW W A xs → Calls Tryd.prog 14 #[.agg SA] W fun e w' => e = .returned (.bool bv) ∧ Below W.heap.size W w') := Lib.hid fun W h1 h2 => by rw [hSA.out, hbv.out]; exact HS.valid x A c W h1 (INX.out W h2)
  have V2 : Hid (∀ W, Calls Tryd.prog 15 #[.agg SA] W fun e w' => e = .returned (.bool bv) ∧ Below W.heap.size W w') := Lib.hid fun W => by rw [hSA.out, hbv.out]; exact refValid_any x hfx.1.1 A c W
  obtain ⟨cv, hcv⟩ : ∃ v, Hid (v = chkF key x) := ⟨_, Lib.hid rfl⟩
  have C1 : Hid (∀ W, Tab W → HW W A xs → Calls Tryd.prog 16 #[.agg K, .agg SA] W fun e w' => e = .returned (.int .i64 cv) ∧ Below W.heap.size W w') := Lib.hid fun W h1 h2 => by rw [hK.out, hSA.out, hcv.out]; exact HS.check key x A c W h1 HKY.out (INX.out W h2)
  have C2 : Hid (∀ W, HW W A xs → Calls Tryd.prog 17 #[.agg K, .agg SA] W fun e w' => e = .returned (.int .i64 cv) ∧ Below W.heap.size W w') := Lib.hid fun W h2 => by rw [hK.out, hSA.out, hcv.out]; exact refHeadCheck_any key HKY.out x hfx sx64 ix64 gx A c W (LX.out W h2) lx p6
  obtain ⟨ov, hov⟩ : ∃ v, Hid (v = ordF x.size x.root y.size y.root) := ⟨_, Lib.hid rfl⟩
  have O1 : Hid (∀ W, Tab W → Calls Tryd.prog 18 #[.agg HA, .agg HB] W fun e w' => e = .returned (.int .i64 ov) ∧ Below W.heap.size W w') := Lib.hid fun W h => by rw [hHA.out, hHB.out, hov.out]; exact HS.order x.size y.size x.root y.root W h sx64 sy64 hfx.1 hfy.1
  have O2 : Hid (∀ W, Calls Tryd.prog 19 #[.agg HA, .agg HB] W fun e w' => e = .returned (.int .i64 ov) ∧ Below W.heap.size W w') := Lib.hid fun W => by rw [hHA.out, hHB.out, hov.out]; exact refOrder_any x.size y.size x.root y.root hfx.1 hfy.1 W
  obtain ⟨sv, hsv⟩ : ∃ b, Hid (b = decide (sameP x y)) := ⟨_, Lib.hid rfl⟩
  have S1 : Hid (∀ W, Tab W → HW W A xs → HW W B ys → Calls Tryd.prog 20 #[.agg SA, .agg SB] W fun e w' => e = .returned (.bool sv) ∧ Below W.heap.size W w') := Lib.hid fun W h1 h2 h3 => by rw [hSA.out, hSB.out, hsv.out]; exact HS.same x y A B c d W h1 (INX.out W h2) (INY.out W h3)
  have S2 : Hid (∀ W, HW W A xs → HW W B ys → Calls Tryd.prog 21 #[.agg SA, .agg SB] W fun e w' => e = .returned (.bool sv) ∧ Below W.heap.size W w') := Lib.hid fun W h2 h3 => by rw [hSA.out, hSB.out, hsv.out]; exact refHeadSame_any x y hfx hfy lx63 ly63 A B c d W (LX.out W h2) (LY.out W h3)
  have S3 : Hid (∀ W, Tab W → HW W A xs → Calls Tryd.prog 20 #[.agg SA, .agg SA] W fun e w' => e = .returned (.bool true) ∧ Below W.heap.size W w') := Lib.hid fun W h1 h2 => by
    have := HS.same x x A A c c W h1 (INX.out W h2) (INX.out W h2)
    rw [decide_eq_true ((sameP_iff x x).2 rfl)] at this
    rw [hSA.out]; exact this
  have tb1 : (T.toList == T.toList) = true := beq_self_eq_true _
  have tb2 : (T.toList != T.toList) = false := bne_self_eq_false _
  have tb3 : (P == P) = true := beq_self_eq_true _
  have tb4 : (P != P) = false := bne_self_eq_false _
  clear ex ey p1 p2 p3 p4 p5 p6 q1 q2 q3 q4 q5 q6 hfx hfy sx64 ix64 sy64 iy64 lx ly gx gy lx63 ly63 HJ hSA hSB hHA hHB hDG hT hP hbv hcv hov hsv
  go_step
  have l4 := GA.out _ _ H3.out.ra
  go_upto_region 5 with (go_at_call 10; (with_reducible refine (XP.out _ H3.out.tab H3.out.la).mono ?_); rintro e w4 ⟨rfl, hb⟩; have H4 := Lib.hid (H3.out.next hb); clear hb)
  clear l4
  have l5 := GA.out _ _ H4.out.ra
  go_upto_region 6 with (go_at_call 11; (with_reducible refine (XQ.out _ H4.out.la).mono ?_); rintro e w5 ⟨rfl, hb⟩; have H5 := Lib.hid (H4.out.next hb); clear hb)
  clear l5 H3 H4
  refine wp_region_fk (TsH w K g7 g8 SA SB A xs B ys) (.get 0 (.get 1 (.get 2 (.get 3 (.get 4 (.get 5 (.get 6 (.get 7 (.get 8 (.get 9 (.get 10 (.get 12 (.get 13 (.call 11 (.call 14 (.get 15 (.get 16 (.get 17 (.get 18 (.get 20 (.call 19 (.call 21 (.get 22 (.get 23 (.get 24 (.get 25 (.get 26 (.get 28 (.get 29 (.call 27 (.call 30 (.get 31 (.get 32 .done))))))))))))))))))))))))))))))))) (by kernel_rfl) rfl (by kernel_rfl) (by kernel_rfl) (by intro c a d v w h; cases d <;> exact h) (H5.out.next (Below.refl _ _).drew) (fun Q' hQ => ?_)
  have HS := Lib.hid (H5.out.next (Below.refl _ _).drew)
  have HQ := Lib.hid hQ
  clear hQ H5
  refine wpFk_get rfl (by rfl) (fun K hK => ?_)
  refine ⟨?_, fun w' hS' => ?_, ?_⟩
  rotate_left
  · go_simp
    try (with_reducible rfl)
  try go_simp
  refine hK _ ?_
  clear hK K
  refine wpFk_get rfl (by rfl) (fun K hK => ?_)
  refine ⟨?_, fun w' hS' => ?_, ?_⟩
  rotate_left
  · go_simp
    try (with_reducible rfl)
  try go_simp
  refine hK _ ?_
  clear hK K
  refine wpFk_get rfl (by rfl) (fun K hK => ?_)
  refine ⟨?_, fun w' hS' => ?_, ?_⟩
  rotate_left
  · go_simp
    try (with_reducible rfl)
  try go_simp
  refine hK _ ?_
  clear hK K
  refine wpFk_get rfl (by rfl) (fun K hK => ?_)
  refine ⟨?_, fun w' hS' => ?_, ?_⟩
  rotate_left
  · go_simp
    try (with_reducible rfl)
  try go_simp
  refine hK _ ?_
  clear hK K
  refine wpFk_get rfl (by rfl) (fun K hK => ?_)
  refine ⟨?_, fun w' hS' => ?_, ?_⟩
  rotate_left
  · go_simp
    try (with_reducible rfl)
  try go_simp
  refine hK _ ?_
  clear hK K
  refine wpFk_get rfl (by rfl) (fun K hK => ?_)
  refine ⟨?_, fun w' hS' => ?_, ?_⟩
  rotate_left
  · go_simp
    try (with_reducible rfl)
  try go_simp
  refine hK _ ?_
  clear hK K
  refine wpFk_get rfl (by rfl) (fun K hK => ?_)
  refine ⟨?_, fun w' hS' => ?_, ?_⟩
  rotate_left
  · go_simp
    try (with_reducible rfl)
  try go_simp
  refine hK _ ?_
  clear hK K
  refine wpFk_get rfl (by rfl) (fun K hK => ?_)
  refine ⟨?_, fun w' hS' => ?_, ?_⟩
  rotate_left
  · go_simp
    try (with_reducible rfl)
  try go_simp
  refine hK _ ?_
  clear hK K
  refine wpFk_get rfl (by rfl) (fun K hK => ?_)
  refine ⟨?_, fun w' hS' => ?_, ?_⟩
  rotate_left
  · go_simp
    try (with_reducible rfl)
  try go_simp
  refine hK _ ?_
  clear hK K
  refine wpFk_get rfl (by rfl) (fun K hK => ?_)
  refine ⟨?_, fun w' hS' => ?_, ?_⟩
  rotate_left
  · go_simp
    try (with_reducible rfl)
  try go_simp
  refine hK _ ?_
  clear hK K
  refine wpFk_get rfl (by rfl) (fun K hK => ?_)
  refine ⟨_, fun w' hS' => get_loadD rfl rfl (DA.out _ _ hS'.ra), ?_⟩
  try go_simp
  refine hK _ ?_
  clear hK K
  refine wpFk_get rfl (by rfl) (fun K hK => ?_)
  refine ⟨?_, fun w' hS' => ?_, ?_⟩
  rotate_left
  · go_simp
    try (with_reducible rfl)
  try go_simp
  refine hK _ ?_
  clear hK K
  refine wpFk_get rfl (by rfl) (fun K hK => ?_)
  refine ⟨_, fun w' hS' => get_loadD rfl rfl (DA.out _ _ hS'.ra), ?_⟩
  try go_simp
  refine hK _ ?_
  clear hK K
  refine wpFk_call rfl (by rfl) (fun K hK => ?_)
  go_simp
  go_at_call 12
  (with_reducible refine (D1.out _ HS.out.tab).mono ?_)
  rintro e w1x ⟨rfl, hb⟩
  replace HS := Lib.hid (HS.out.next hb)
  clear hb
  refine hK _ _ HS.out ?_
  clear hK K
  refine wpFk_call rfl (by rfl) (fun K hK => ?_)
  go_simp
  go_at_call 13
  (with_reducible refine (D2.out _).mono ?_)
  rintro e w1x ⟨rfl, hb⟩
  replace HS := Lib.hid (HS.out.next hb)
  clear hb
  refine hK _ _ HS.out ?_
  clear hK K
  refine wpFk_get rfl (by rfl) (fun K hK => ?_)
  refine ⟨_, fun w' hS' => get_neqH rfl rfl rfl (NE0.out _), ?_⟩
  try go_simp
  refine hK _ ?_
  clear hK K
  refine wpFk_get rfl (by rfl) (fun K hK => ?_)
  refine ⟨?_, fun w' hS' => ?_, ?_⟩
  rotate_left
  · go_simp
    try (with_reducible rfl)
  try go_simp
  refine hK _ ?_
  clear hK K
  refine wpFk_get rfl (by rfl) (fun K hK => ?_)
  refine ⟨?_, fun w' hS' => ?_, ?_⟩
  rotate_left
  · go_simp
    try (with_reducible rfl)
  try go_simp
  refine hK _ ?_
  clear hK K
  refine wpFk_get rfl (by rfl) (fun K hK => ?_)
  refine ⟨_, fun w' hS' => get_loadG rfl rfl (GA.out _ _ hS'.ra), ?_⟩
  try go_simp
  refine hK _ ?_
  clear hK K
  refine wpFk_get rfl (by rfl) (fun K hK => ?_)
  refine ⟨_, fun w' hS' => get_loadG rfl rfl (GA.out _ _ hS'.ra), ?_⟩
  try go_simp
  refine hK _ ?_
  clear hK K
  refine wpFk_call rfl (by rfl) (fun K hK => ?_)
  go_simp
  go_at_call 14
  (with_reducible refine (V1.out _ HS.out.tab HS.out.la).mono ?_)
  rintro e w1x ⟨rfl, hb⟩
  replace HS := Lib.hid (HS.out.next hb)
  clear hb
  refine hK _ _ HS.out ?_
  clear hK K
  refine wpFk_call rfl (by rfl) (fun K hK => ?_)
  go_simp
  go_at_call 15
  (with_reducible refine (V2.out _).mono ?_)
  rintro e w1x ⟨rfl, hb⟩
  replace HS := Lib.hid (HS.out.next hb)
  clear hb
  refine hK _ _ HS.out ?_
  clear hK K
  refine wpFk_get rfl (by rfl) (fun K hK => ?_)
  refine ⟨?_, fun w' hS' => ?_, ?_⟩
  rotate_left
  · go_simp
    try (with_reducible rfl)
  try go_simp
  refine hK _ ?_
  clear hK K
  refine wpFk_get rfl (by rfl) (fun K hK => ?_)
  refine ⟨?_, fun w' hS' => ?_, ?_⟩
  rotate_left
  · go_simp
    try (with_reducible rfl)
  try go_simp
  refine hK _ ?_
  clear hK K
  refine wpFk_get rfl (by rfl) (fun K hK => ?_)
  refine ⟨?_, fun w' hS' => ?_, ?_⟩
  rotate_left
  · go_simp
    try (with_reducible rfl)
  try go_simp
  refine hK _ ?_
  clear hK K
  refine wpFk_get rfl (by rfl) (fun K hK => ?_)
  refine ⟨_, fun w' hS' => get_load rfl rfl (hS'.rk.read zK.out), ?_⟩
  try go_simp
  refine hK _ ?_
  clear hK K
  refine wpFk_get rfl (by rfl) (fun K hK => ?_)
  refine ⟨_, fun w' hS' => get_loadG rfl rfl (GA.out _ _ hS'.ra), ?_⟩
  try go_simp
  refine hK _ ?_
  clear hK K
  refine wpFk_get rfl (by rfl) (fun K hK => ?_)
  refine ⟨_, fun w' hS' => get_load rfl rfl (hS'.rk.read zK.out), ?_⟩
  try go_simp
  refine hK _ ?_
  clear hK K
  refine wpFk_get rfl (by rfl) (fun K hK => ?_)
  refine ⟨_, fun w' hS' => get_loadG rfl rfl (GA.out _ _ hS'.ra), ?_⟩
  try go_simp
  refine hK _ ?_
  clear hK K
  refine wpFk_call rfl (by rfl) (fun K hK => ?_)
  go_simp
  go_at_call 16
  (with_reducible refine (C1.out _ HS.out.tab HS.out.la).mono ?_)
  rintro e w1x ⟨rfl, hb⟩
  replace HS := Lib.hid (HS.out.next hb)
  clear hb
  refine hK _ _ HS.out ?_
  clear hK K
  refine wpFk_call rfl (by rfl) (fun K hK => ?_)
  go_simp
  go_at_call 17
  (with_reducible refine (C2.out _ HS.out.la).mono ?_)
  rintro e w1x ⟨rfl, hb⟩
  replace HS := Lib.hid (HS.out.next hb)
  clear hb
  refine hK _ _ HS.out ?_
  clear hK K
  refine wpFk_get rfl (by rfl) (fun K hK => ?_)
  refine ⟨?_, fun w' hS' => ?_, ?_⟩
  rotate_left
  · go_simp
    try (with_reducible rfl)
  try go_simp
  refine hK _ ?_
  clear hK K
  refine wpFk_get rfl (by rfl) (fun K hK => ?_)
  refine ⟨?_, fun w' hS' => ?_, ?_⟩
  rotate_left
  · go_simp
    try (with_reducible rfl)
  try go_simp
  refine hK _ ?_
  clear hK K
  refine wpFk_done ?_
  refine HQ.out _ _ ?_
  clear HQ
  go_upto_region 8 with fail
  have H8 := HS
  clear HS
  refine wp_region_fk (TsH w K g7 g8 SA SB A xs B ys) (.get 0 (.get 1 (.get 2 (.get 3 (.get 5 (.get 6 (.get 7 (.get 8 (.call 4 (.call 9 (.get 10 (.get 11 (.get 12 (.get 13 (.get 15 (.get 16 (.call 14 (.call 17 (.get 18 (.get 19 (.get 20 (.get 21 (.get 22 (.call 23 (.get 24 (.get 25 (.call 26 (.get 27 (.get 28 .done))))))))))))))))))))))))))))) (by kernel_rfl) rfl (by kernel_rfl) (by kernel_rfl) (by intro c a d v w h; cases d <;> exact h) (H8.out.next (Below.refl _ _).drew) (fun Q' hQ => ?_)
  have HS := Lib.hid (H8.out.next (Below.refl _ _).drew)
  have HQ := Lib.hid hQ
  clear hQ H8
  refine wpFk_get rfl (by rfl) (fun K hK => ?_)
  refine ⟨?_, fun w' hS' => ?_, ?_⟩
  rotate_left
  · go_simp
    try (with_reducible rfl)
  try go_simp
  refine hK _ ?_
  clear hK K
  refine wpFk_get rfl (by rfl) (fun K hK => ?_)
  refine ⟨_, fun w' hS' => get_loadD rfl rfl (DA.out _ _ hS'.ra), ?_⟩
  try go_simp
  refine hK _ ?_
  clear hK K
  refine wpFk_get rfl (by rfl) (fun K hK => ?_)
  refine ⟨?_, fun w' hS' => ?_, ?_⟩
  rotate_left
  · go_simp
    try (with_reducible rfl)
  try go_simp
  refine hK _ ?_
  clear hK K
  refine wpFk_get rfl (by rfl) (fun K hK => ?_)
  refine ⟨_, fun w' hS' => get_loadD rfl rfl (DB.out _ _ hS'.rb), ?_⟩
  try go_simp
  refine hK _ ?_
  clear hK K
  refine wpFk_get rfl (by rfl) (fun K hK => ?_)
  refine ⟨?_, fun w' hS' => ?_, ?_⟩
  rotate_left
  · go_simp
    try (with_reducible rfl)
  try go_simp
  refine hK _ ?_
  clear hK K
  refine wpFk_get rfl (by rfl) (fun K hK => ?_)
  refine ⟨_, fun w' hS' => get_loadD rfl rfl (DA.out _ _ hS'.ra), ?_⟩
  try go_simp
  refine hK _ ?_
  clear hK K
  refine wpFk_get rfl (by rfl) (fun K hK => ?_)
  refine ⟨?_, fun w' hS' => ?_, ?_⟩
  rotate_left
  · go_simp
    try (with_reducible rfl)
  try go_simp
  refine hK _ ?_
  clear hK K
  refine wpFk_get rfl (by rfl) (fun K hK => ?_)
  refine ⟨_, fun w' hS' => get_loadD rfl rfl (DB.out _ _ hS'.rb), ?_⟩
  try go_simp
  refine hK _ ?_
  clear hK K
  refine wpFk_call rfl (by rfl) (fun K hK => ?_)
  go_simp
  go_at_call 18
  (with_reducible refine (O1.out _ HS.out.tab).mono ?_)
  rintro e w1x ⟨rfl, hb⟩
  replace HS := Lib.hid (HS.out.next hb)
  clear hb
  refine hK _ _ HS.out ?_
  clear hK K
  refine wpFk_call rfl (by rfl) (fun K hK => ?_)
  go_simp
  go_at_call 19
  (with_reducible refine (O2.out _).mono ?_)
  rintro e w1x ⟨rfl, hb⟩
  replace HS := Lib.hid (HS.out.next hb)
  clear hb
  refine hK _ _ HS.out ?_
  clear hK K
  refine wpFk_get rfl (by rfl) (fun K hK => ?_)
  refine ⟨?_, fun w' hS' => ?_, ?_⟩
  rotate_left
  · go_simp
    try (with_reducible rfl)
  try go_simp
  refine hK _ ?_
  clear hK K
  refine wpFk_get rfl (by rfl) (fun K hK => ?_)
  refine ⟨?_, fun w' hS' => ?_, ?_⟩
  rotate_left
  · go_simp
    try (with_reducible rfl)
  try go_simp
  refine hK _ ?_
  clear hK K
  refine wpFk_get rfl (by rfl) (fun K hK => ?_)
  refine ⟨_, fun w' hS' => get_loadG rfl rfl (GA.out _ _ hS'.ra), ?_⟩
  try go_simp
  refine hK _ ?_
  clear hK K
  refine wpFk_get rfl (by rfl) (fun K hK => ?_)
  refine ⟨_, fun w' hS' => get_loadG rfl rfl (GB.out _ _ hS'.rb), ?_⟩
  try go_simp
  refine hK _ ?_
  clear hK K
  refine wpFk_get rfl (by rfl) (fun K hK => ?_)
  refine ⟨_, fun w' hS' => get_loadG rfl rfl (GA.out _ _ hS'.ra), ?_⟩
  try go_simp
  refine hK _ ?_
  clear hK K
  refine wpFk_get rfl (by rfl) (fun K hK => ?_)
  refine ⟨_, fun w' hS' => get_loadG rfl rfl (GB.out _ _ hS'.rb), ?_⟩
  try go_simp
  refine hK _ ?_
  clear hK K
  refine wpFk_call rfl (by rfl) (fun K hK => ?_)
  go_simp
  go_at_call 20
  (with_reducible refine (S1.out _ HS.out.tab HS.out.la HS.out.lb).mono ?_)
  rintro e w1x ⟨rfl, hb⟩
  replace HS := Lib.hid (HS.out.next hb)
  clear hb
  refine hK _ _ HS.out ?_
  clear hK K
  refine wpFk_call rfl (by rfl) (fun K hK => ?_)
  go_simp
  go_at_call 21
  (with_reducible refine (S2.out _ HS.out.la HS.out.lb).mono ?_)
  rintro e w1x ⟨rfl, hb⟩
  replace HS := Lib.hid (HS.out.next hb)
  clear hb
  refine hK _ _ HS.out ?_
  clear hK K
  refine wpFk_get rfl (by rfl) (fun K hK => ?_)
  refine ⟨?_, fun w' hS' => ?_, ?_⟩
  rotate_left
  · go_simp
    try (with_reducible rfl)
  try go_simp
  refine hK _ ?_
  clear hK K
  refine wpFk_get rfl (by rfl) (fun K hK => ?_)
  refine ⟨?_, fun w' hS' => ?_, ?_⟩
  rotate_left
  · go_simp
    try (with_reducible rfl)
  try go_simp
  refine hK _ ?_
  clear hK K
  refine wpFk_get rfl (by rfl) (fun K hK => ?_)
  refine ⟨?_, fun w' hS' => ?_, ?_⟩
  rotate_left
  · go_simp
    try (with_reducible rfl)
  try go_simp
  refine hK _ ?_
  clear hK K
  refine wpFk_get rfl (by rfl) (fun K hK => ?_)
  refine ⟨_, fun w' hS' => get_loadG rfl rfl (GA.out _ _ hS'.ra), ?_⟩
  try go_simp
  refine hK _ ?_
  clear hK K
  refine wpFk_get rfl (by rfl) (fun K hK => ?_)
  refine ⟨_, fun w' hS' => get_loadG rfl rfl (GA.out _ _ hS'.ra), ?_⟩
  try go_simp
  refine hK _ ?_
  clear hK K
  refine wpFk_call rfl (by rfl) (fun K hK => ?_)
  go_simp
  go_at_call 20
  (with_reducible refine (S3.out _ HS.out.tab HS.out.la).mono ?_)
  rintro e w1x ⟨rfl, hb⟩
  replace HS := Lib.hid (HS.out.next hb)
  clear hb
  refine hK _ _ HS.out ?_
  clear hK K
  refine wpFk_get rfl (by rfl) (fun K hK => ?_)
  refine ⟨?_, fun w' hS' => ?_, ?_⟩
  rotate_left
  · go_simp
    try (with_reducible rfl)
  try go_simp
  refine hK _ ?_
  clear hK K
  refine wpFk_get rfl (by rfl) (fun K hK => ?_)
  refine ⟨?_, fun w' hS' => ?_, ?_⟩
  rotate_left
  · go_simp
    try (with_reducible rfl)
  try go_simp
  refine hK _ ?_
  clear hK K
  refine wpFk_call rfl (by rfl) (fun K hK => ?_)
  go_simp
  go_at_call 8
  (with_reducible refine (KED.out _ HS.out.tab).mono ?_)
  rintro e w1x ⟨rfl, hb⟩
  replace HS := Lib.hid (HS.out.next hb)
  clear hb
  refine hK _ _ HS.out ?_
  clear hK K
  refine wpFk_get rfl (by rfl) (fun K hK => ?_)
  refine ⟨?_, fun w' hS' => ?_, ?_⟩
  rotate_left
  · go_simp
    try (with_reducible rfl)
  try go_simp
  refine hK _ ?_
  clear hK K
  refine wpFk_get rfl (by rfl) (fun K hK => ?_)
  refine ⟨?_, fun w' hS' => ?_, ?_⟩
  rotate_left
  · go_simp
    try (with_reducible rfl)
  try go_simp
  refine hK _ ?_
  clear hK K
  refine wpFk_done ?_
  refine HQ.out _ _ ?_
  clear HQ
  go_wp2
  go_ret
  exact ⟨rfl, HS.out.below⟩
end Go.Proofs.YtpndccoikhejgaaDoor
namespace Go.Proofs.YtpndccoikhejgaaDoor.tell
open Go.ChangeShapes Go.WideShapes Go.ChangeAt Go.RowKit
open Go.ChangeMaps (open_string)
set_option linter.unusedVariables false

set_option maxRecDepth 100000 in
theorem lifted (os : Os) (started : os.Started) (H : Type) (enc : TypeId × Value → H) :
    ReturnsInHanded {} Tryd.checked os 3 .any (fun w args => (Rows.headsTellSpec.pre enc Tryd.prog Tryd.f3 [] false w args ∧ laidMetH Tryd.prog laid2 w) ∧ sizedMet enc Tryd.prog Tryd.f3 (OpenSpec.ofChange Rows.headsTellSpec) false w args)
      (Rows.headsTellSpec.post enc Tryd.prog Tryd.f3 false true false false) := by
  refine returnsInHanded_of_change_and (C := Tryd.checked) (X := fun w _ => laidMetH Tryd.prog laid2 w) (fun _ _ _ hh h => h.of_heap hh) own started (by kernel_rfl) Tryd.func3
    (ChangeSpec.witness_shaped (enc := enc) (C := Tryd.checked) (os := os) (X := fun w _ => laidMetH Tryd.prog laid2 w) false (World.doorLaid Tryd.prog 400 os) #[.agg (roughV 0 zero32 0 ⟨#[]⟩ 0 none 0 0), .agg (roughV 0 zero32 0 ⟨#[]⟩ 0 none 0 0), .agg (nums .u8 zero32)] 8 rfl (World.shaped_of_RefB (by kernel_rfl) (by kernel_rfl)) (by kernel_rfl) (by kernel_rfl) (by kernel_rfl) (door_met os _)) ?_
  intro W base args ds gs before hval0 hW _ _ hL _
  have hval : ∀ (j : Nat) t v, Tryd.f3.params[j]? = some t → args[j]? = some v → Value.okWide Tryd.prog W .any base t v := hval0
  have hW' := hW
  obtain ⟨p, q, hA0, hV, rfl, hfz, hnd⟩ := hW
  have hA : DataW.TrodAll enc Tryd.prog W 0 (fun _ => true) true Tryd.f3.params.toList args.toList ds p := hA0
  rw [Tryd.params3] at hA hval
  obtain ⟨v0, vs0, d0, ds0, p0, q0, hargs, rfl, rfl, h0, r0⟩ := trodAll_cons hA
  obtain ⟨v1, vs1, d1, ds1, p1, q1, rfl, rfl, rfl, h1, r1⟩ := trodAll_cons r0
  obtain ⟨v2, vs2, d2, ds2, p2, q2, rfl, rfl, rfl, h2, r2⟩ := trodAll_cons r1
  obtain ⟨rfl, rfl, rfl⟩ := trodAll_nil r2
  obtain rfl : args = #[v0, v1, v2] := by cases args; simp_all
  obtain ⟨rfl, rfl⟩ := trodVars_none hV
  have k0 := h0
  have lt0 : ∀ x ∈ p0, x.block < W.heap.size := by obtain ⟨m, hm⟩ := k0; exact DataW.trod_lt m _ _ _ hm
  have k1 := h1
  have lt1 : ∀ x ∈ p1, x.block < W.heap.size := by obtain ⟨m, hm⟩ := k1; exact DataW.trod_lt m _ _ _ hm
  have k2 := h2
  have lt2 : ∀ x ∈ p2, x.block < W.heap.size := by obtain ⟨m, hm⟩ := k2; exact DataW.trod_lt m _ _ _ hm
  obtain ⟨z0, r0_, i0, t0, y0, A0, c0, ls0, rfl, hz0, hr0, hi0, ht0, hy0, hh0, hl0, hc0, hm0⟩ := open_rough (hval 0 29 v0 rfl rfl) h0
  obtain ⟨z1, r1_, i1, t1, y1, A1, c1, ls1, rfl, hz1, hr1, hi1, ht1, hy1, hh1, hl1, hc1, hm1⟩ := open_rough (hval 1 29 v1 rfl rfl) h1
  obtain ⟨l2, rfl, hl2, hb2⟩ := open_hash (hval 2 23 v2 rfl rfl) h2
  clear hA0 hval0
  refine (headstell_any head_says z0 hz0 r0_ hr0 i0 hi0 t0 ht0 y0 hy0 ls0 hh0 A0 c0 hc0 hm0 z1 hz1 r1_ hr1 i1 hi1 t1 ht1 y1 hy1 ls1 hh1 A1 c1 hc1 hm1 l2 ⟨hl2, hb2⟩ W hl0 hl1 (of_laid hL)).mono fun e W' ⟨he, bel⟩ => ?_
  subst he
  exact ⟨_, rfl, _, _, _, [], _, [], hW', trodAll_mk1 (shut_bool Tryd.underlying4 _), (trodAll_cons_mk (Below.trod laidOut (by kernel_rfl) (of_decide_eq_true (by kernel_rfl)) k0 bel lt0) (trodAll_cons_mk (Below.trod laidOut (by kernel_rfl) (of_decide_eq_true (by kernel_rfl)) k1 bel lt1) (trodAll_cons_mk (Below.trod laidOut (by kernel_rfl) (of_decide_eq_true (by kernel_rfl)) k2 bel lt2) trodAll_mk0))), rfl, bel.frame _, fun h => by cases h⟩

theorem over : Rows.HeadsTellSaid :=
  OpenClaim.holds_of_wide 3 Tryd.f3 rfl rfl rfl rfl rfl rfl rfl ⟨rfl, rfl, rfl, rfl, rfl⟩ rfl rfl rfl rfl rfl (by kernel_rfl) Tryd.func3 (by kernel_rfl)
    (of_decide_eq_true (by kernel_rfl)) (by unfold Func.isWrapper; first | (rw [if_pos (by decide +kernel)]; kernel_rfl) | (rw [if_neg (by decide +kernel)]; exact ⟨rfl, rfl⟩))
    (fun os started H enc _ => lifted os started H enc)

/-- The statement. -/
theorem proved : Rows.HeadsTellCardSaid :=
  Claim7.holds_tied_plain_at .later [] [.data, .data] true _ false
    over (fun _ h => by cases h) (by kernel_rfl) (fun _ h => by cases h) headsTell_row_tie rfl ⟨rfl, rfl⟩ (by kernel_rfl) rfl
    (fun f fn hf hfn => by
      obtain rfl : f = 3 := Option.some.inj ((show Tryd.prog.funcNamed "speculum/speculumlaw10.HeadsTell" = some 3 by kernel_rfl).symm.trans hf) |>.symm
      obtain rfl : fn = Tryd.f3 := (Option.some.inj (Tryd.func3.symm.trans hfn)).symm
      exact ⟨by kernel_rfl, fun j t ht => by
        rw [Tryd.params3] at ht
        have hm : t ∈ [29, 29, 23] := by simpa using Array.mem_of_getElem? ht
        have hall : ([29, 29, 23].all fun u => !Tryd.prog.wantsStandIn u) = true := by kernel_rfl
        exact (show Tryd.prog.wantsStandIn t = false by simpa using List.all_eq_true.1 hall t hm)⟩)
    (by kernel_rfl)
#print axioms proved
end Go.Proofs.YtpndccoikhejgaaDoor.tell
