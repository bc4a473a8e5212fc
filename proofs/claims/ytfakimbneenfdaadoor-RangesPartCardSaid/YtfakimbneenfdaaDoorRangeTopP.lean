/-
  Several texts in one (a claim has room for 60 files), the card last: RangeRefExt, RangeRefOf, RangeRefPart, RangeGreat, RangeLawP, ListCard, RangeArg.
-/
import Derived.Test.YtfakimbneenfdaaDoorRangeRefs
import Derived.Test.YtfakimbneenfdaaDoorRangeExt
import Derived.Test.YtfakimbneenfdaaDoorRangeOf
import Derived.Test.YtfakimbneenfdaaDoorRefAll
import Derived.Test.YtfakimbneenfdaaDoorRangePart
import Derived.Test.YtfakimbneenfdaaDoorRangeJoin
import Derived.Test.YtfakimbneenfdaaDoorFork
import Derived.Test.YtfakimbneenfdaaDoorRangeExW
import Derived.Test.YtfakimbneenfdaaDoorRangeRefSame
import Derived.Test.YtfakimbneenfdaaDoorTreeCells
import Derived.Test.YtfakimbneenfdaaDoorShaCard
namespace Go.Proofs.YtfakimbneenfdaaDoor
open Go.RowKit Go.Great
set_option linter.unusedVariables false
set_option maxRecDepth 100000

/-- Trees copied: append to nothing, of a slice that may be nil. -/
theorem append_nilT (ty : TypeId) (c : Nat) (w : World) : (Builtin.append_ #[58, 58] ty #[.slice none 0 0, .slice none 0 c]).run Tryd.prog w = .ok (.slice none 0 0) w := by
  obtain ⟨i0, hi, hz0, hz1, hz2⟩ := info_parts infoTree
  simp [Builtin.append_, run_underlying Tryd.underlying58, sizeOf, typeInfo, hi, Builtin.lenOf, Builtin.firstCells]
theorem wp_appendTC {o : Oper} {a : Act} {w : World} {K : Act → World → Prop} {Q : Exit → Act → World → Prop} (s x : Operand) (ho : o.op = .call { callee := .builtin .append, args := #[s, x], argTypes := #[58, 58] })
    (B : Nat) (us : List Tr) (hsv : a.eval s = .slice none 0 0) (A : Option Addr) (m c : Nat) (hx : a.eval x = .slice A m c) (hm : m = us.length) (hu : okT us) (hU : TL w A us) (hsm : m ≤ 8192) (hB : B ≤ w.heap.size)
    (h : ∀ v' w', ownT w' B v' us → w.grownBy w' none → K (a.put o.dst v') w') : o.wp Tryd.prog a w K Q := by
  cases A with
  | some ad =>
    exact wp_appendT s x ho B (.slice none 0 0) [] us hsv (ownT.start _ _) ad m c hx hm hu hU (by show 0 + m ≤ 8192; omega) hB (fun v' w' h1 h2 => h v' w' h1 h2)
  | none =>
    have e0 : us = [] := by
      cases us with
      | nil => rfl
      | cons u us => obtain ⟨ad, e⟩ := hU.some hu (by simp); cases e
    subst e0
    obtain rfl : m = 0 := hm
    have hk := h (.slice none 0 0) w (ownT.start _ _) (grown_of_below (Below.refl _ _) none)
    unfold Oper.wp execOp
    simp only [ho, resolve, invoke, builtin, Sem.run_bind, Sem.run_pure, Result.andThen_ok, List.map_toArray, List.map_cons, List.map_nil, hsv, hx, append_nilT]
    exact hk
theorem trs_okT (j m : Nat) (hs : List (List Int)) (h : hashes hs) : okT (trs j m hs) := fun u hu => h u.2 (List.of_mem_zip hu).2
theorem trs_sum (m : Nat) (hs : List (List Int)) (h : hs.length = ones m) : ((trs 0 m hs).map Prod.fst).sum = m := by rw [trs_sizes 0 m hs h, sz_sum]; simp
/-- What Extend holds while leaves are put behind. -/
structure ExtL (w wr : World) (s : Int) (A : Option Addr) (n c : Nat) (R ls : List (List Int)) (k S' n' c' : Nat) (A' : Option Addr) (hs' : List (List Int)) : Prop where
  ext : ExtH w wr s A n c
  tl : TL wr A' (trs 0 S' hs')
  len : hs'.length = ones S'
  hh : hashes hs'
  res : adds S' hs' (ls.drop k) = R
  ln : n' = ones S'
  c1 : n' ≤ c'
  c2 : c' ≤ maxLen
attribute [local go_sem ↓ high] read_at write_at
set_option maxHeartbeats 8000000 in
theorem refExtend_any (w : World) (s : Int) (hs64 : -9223372036854775808 ≤ s ∧ s ≤ 9223372036854775807) (A : Option Addr) (c : Nat) (hs : List (List Int)) (hh : hashes hs) (hA : HL w w.heap.size A hs)
    (LA : Option Addr) (lc : Nat) (ls : List (List Int)) (hl : hashes ls) (hL : HL w w.heap.size LA ls) (hsm : ls.length ≤ 100000) :
    Calls Tryd.prog 14 #[.agg #[.int .i64 s, .slice A hs.length c], .slice LA ls.length lc] w (GivesR w (extF s hs ls)) := by
  obtain ⟨n, hn⟩ : ∃ n, Hid (n = hs.length) := ⟨_, Lib.hid rfl⟩
  obtain ⟨m, hm⟩ : ∃ m, Hid (m = ls.length) := ⟨_, Lib.hid rfl⟩
  have hmm : m ≤ 100000 := by rw [hm.out]; exact hsm
  obtain ⟨b, hb⟩ : ∃ b, Hid (b = validB s n) := ⟨_, Lib.hid rfl⟩
  have V1 : Hid (∀ W, Calls Tryd.prog 19 #[.agg #[.int .i64 s, .slice A n c]] W fun e w' => e = .returned (.bool b) ∧ Below W.heap.size W w') := Lib.hid fun W => by
    rw [hb.out]; exact refValid_any s A n c W
  rw [← hn.out, ← hm.out]
  have HB := Lib.hid (ExtH.start w s A n c)
  have HA := Lib.hid hA
  have HL1 := Lib.hid hL
  have HH := Lib.hid hh
  have HHl := Lib.hid hl
  clear hA hL hh hl hsm
  cases b with
  | false =>
    have HF : Hid (extF s hs ls = (0, [], 2)) := Lib.hid (extF_arg (by rw [← hn.out]; exact hb.out.symm))
    go_enter Tryd.func14, Tryd.ntmps14
    go_upto_region 1 with fail
    refine world_gen (fun wx => ExtH w wx s A n c) HB.out (fun wx HX => ?_)
    have HX := Lib.hid HX
    have c0 := HX.out.1.cell 0
    have c1 := HX.out.1.cell 1
    go_wp2_with (go_at_call 19; (with_reducible refine (V1.out _).mono ?_); rintro e w1 ⟨rfl, hb2⟩; have HY := Lib.hid (HX.out.next hb2); clear hb2 c0 c1; have c0 := HY.out.1.cell 0; have d0 := HY.out.2.1.cell 0; have d1 := HY.out.2.1.cell 1; have f0 := HY.out.2.1.free 0; have f1 := HY.out.2.1.free 1)
    have HD := HY.out.done (s' := 0) (A' := none) (k := 0) (c' := 0) (hs := []) ⟨rfl, .inl ⟨rfl, rfl⟩⟩
    have q0 := HD.1.cell 0
    have q1 := HD.1.cell 1
    refine bodyPost_ret (v := .tuple #[.agg #[.int .i64 0, .slice none 0 0], .int .i64 2]) (by simp [results, Tryd.results14, go_sem, q0, q1]) rfl ?_
    unfold GivesR
    rw [HF.out]
    exact ⟨none, 0, rfl, HD.2⟩
  | true =>
    obtain ⟨s0, s1, s2⟩ := validB_ones hb.out.symm
    obtain ⟨S, rfl⟩ : ∃ S : Nat, s = S := ⟨s.toNat, by omega⟩
    have hone : Hid (n = ones S) := Lib.hid (by simpa using s2)
    have HV : Hid (validB (S : Int) hs.length = true) := Lib.hid (by rw [← hn.out]; exact hb.out.symm)
    obtain ⟨t, ht⟩ : ∃ t : Nat, Hid (t = S + m) := ⟨_, Lib.hid rfl⟩
    have e4 : (S : Int) + (m : Int) = (t : Int) := by rw [ht.out]; omega
    have htb : t ≤ 104096 := by rw [ht.out]; omega
    have hwt : IntKind.i64.wrap (t : Int) = (t : Int) := by rw [IntKind.wrap_i64]; omega
    clear s2
    by_cases hfull : 4096 < t
    · have HF : Hid (extF (S : Int) hs ls = (0, [], 60)) := Lib.hid (extF_full HV.out (by rw [← hm.out]; have := ht.out; omega))
      have df : decide (4096 < (t : Int)) = true := decide_eq_true (by omega)
      go_enter Tryd.func14, Tryd.ntmps14
      go_upto_region 1 with fail
      refine world_gen (fun wx => ExtH w wx (S : Int) A n c) HB.out (fun wx HX => ?_)
      have HX := Lib.hid HX
      have c0 := HX.out.1.cell 0
      have c1 := HX.out.1.cell 1
      go_wp2_with (go_at_call 19; (with_reducible refine (V1.out _).mono ?_); rintro e w1 ⟨rfl, hb2⟩; have HY := Lib.hid (HX.out.next hb2); clear hb2 c0 c1; have c0 := HY.out.1.cell 0; have d0 := HY.out.2.1.cell 0; have d1 := HY.out.2.1.cell 1; have f0 := HY.out.2.1.free 0; have f1 := HY.out.2.1.free 1)
      have HD := HY.out.done (s' := 0) (A' := none) (k := 0) (c' := 0) (hs := []) ⟨rfl, .inl ⟨rfl, rfl⟩⟩
      have q0 := HD.1.cell 0
      have q1 := HD.1.cell 1
      refine bodyPost_ret (v := .tuple #[.agg #[.int .i64 0, .slice none 0 0], .int .i64 60]) (by simp [results, Tryd.results14, go_sem, q0, q1]) rfl ?_
      unfold GivesR
      rw [HF.out]
      exact ⟨none, 0, rfl, HD.2⟩
    · have df : decide (4096 < (t : Int)) = false := decide_eq_false (by omega)
      have hm4 : m ≤ 4096 := by have := ht.out; omega
      obtain ⟨R, hR⟩ : ∃ R, Hid (R = adds S hs ls) := ⟨_, Lib.hid rfl⟩
      have HF : Hid (extF (S : Int) hs ls = ((t : Int), R, 0)) := Lib.hid (by rw [extF_ok HV.out (by rw [← hm.out]; have := ht.out; omega), ← hm.out, e4, hR.out]; rfl)
      have O1 : Hid (∀ W, ExtH w W (S : Int) A n c → Calls Tryd.prog 39 #[.agg #[.int .i64 (S : Int), .slice A n c]] W fun e w' => ∃ k' A' c', e = .returned (.slice A' k' c') ∧ ExtL w w' (S : Int) A n c R ls 0 S k' c' A' hs) := Lib.hid fun W h => by
        have := refOpen_any S (by omega) hs HH.out (by rw [← hn.out]; exact hone.out) A c W (HA.out.from h.below)
        rw [← hn.out] at this
        refine this.mono ?_
        rintro e w' ⟨⟨A', c', rfl, h1, h2, h3⟩, hb⟩
        exact ⟨ones S, A', c', rfl, ⟨h.next hb, h3, by rw [← hn.out]; exact hone.out, HH.out, by rw [hR.out]; rfl, rfl, h1, h2⟩⟩
      go_enter Tryd.func14, Tryd.ntmps14
      go_upto_region 1 with fail
      refine world_gen (fun wx => ExtH w wx (S : Int) A n c) HB.out (fun wx HX => ?_)
      have HX := Lib.hid HX
      have c0 := HX.out.1.cell 0
      have c1 := HX.out.1.cell 1
      go_upto_region 5 with (go_at_call 19; (with_reducible refine (V1.out _).mono ?_); rintro e w1 ⟨rfl, hb2⟩; have HY := Lib.hid (HX.out.next hb2); clear hb2 c0 c1; have c0 := HY.out.1.cell 0; have c1 := HY.out.1.cell 1)
      go_wp2_with (go_at_call 39; (with_reducible refine (O1.out _ HY.out).mono ?_); rintro e w2 ⟨k0, A0, ca, rfl, h2⟩; have H2 := Lib.hid h2; clear h2 c0 c1)
      clear O1 V1 HX HY HB
      go_loopw [6, 7] (fun s6 s7 wr => ∃ (k S' n' c' : Nat) (A' : Option Addr) (hs' : List (List Int)), s6 = .slice A' n' c' ∧ s7 = .int .i64 (k : Int) ∧ k ≤ m ∧ Hid (S' = S + k) ∧ Hid (ExtL w wr (S : Int) A n c R ls k S' n' c' A' hs')) (fun _ s7 _ => (m - intOf s7).toNat)
      case atStart => exact ⟨0, S, k0, ca, A0, hs, rfl, rfl, by omega, Lib.hid rfl, H2⟩
      case round =>
        clear H2
        obtain ⟨k, S', n', c', A', hs', rfl, rfl, hkm, hS', HL⟩ := hrel
        by_cases hlt : k < m
        · have d5 : (k : Int) < (m : Int) := by omega
          have hkl : k < ls.length := by rw [← hm.out]; exact hlt
          have hwk : IntKind.i64.wrap (k : Int) = (k : Int) := by rw [IntKind.wrap_i64]; omega
          obtain ⟨ld, rfl⟩ := HL1.out.some k hkl
          obtain ⟨x, hx⟩ : ∃ x, Hid (x = ls.getD k []) := ⟨_, Lib.hid rfl⟩
          obtain ⟨X, hX⟩ : ∃ X, Hid (X = nums .u8 x) := ⟨_, Lib.hid rfl⟩
          have hx32 : Hid (x.length = 32 ∧ bytes x) := Lib.hid (by rw [hx.out]; exact hashes_at HHl.out k hkl)
          have zX : Hid (X.size = 32) := Lib.hid (by rw [hX.out, nums_size]; exact hx32.out.1)
          obtain ⟨ts, hts⟩ : ∃ ts, Hid (ts = trs 0 S' hs') := ⟨_, Lib.hid rfl⟩
          have hS4 : S' + 1 ≤ 4096 := by rw [hS'.out]; have := ht.out; omega
          have tl1 : Hid (ts.length = n') := Lib.hid (by rw [hts.out, trs_length 0 S' hs' HL.out.len, HL.out.ln])
          have hn13 : n' ≤ 13 := by rw [HL.out.ln]; exact ones_le 13 S' (by omega)
          have tok : Hid (okT ts) := Lib.hid (by rw [hts.out]; exact trs_okT _ _ _ HL.out.hh)
          have tx : Hid (okT [((1 : Nat), x)]) := Lib.hid (okT.one hx32.out)
          have HJ : Hid (joinP (ts ++ [((1 : Nat), x)]) = trs 0 (S' + 1) (carry S' hs' x)) := Lib.hid (by
            have := joinP_trs 0 S' hs' x HL.out.len
            rw [Nat.pow_zero, Nat.mul_one] at this
            rw [hts.out]; exact this)
          have HJl : Hid ((joinP (ts ++ [((1 : Nat), x)])).length = ones (S' + 1)) := Lib.hid (by rw [HJ.out]; exact trs_length 0 _ _ (carry_length S' hs' x HL.out.len))
          have HSM : Hid (((ts ++ [((1 : Nat), x)]).map Prod.fst).sum ≤ 8192 ∧ (ts ++ [((1 : Nat), x)]).length ≤ 4096 ∧ (ts ++ [((1 : Nat), x)]).length = n' + 1) := Lib.hid (by
            refine ⟨?_, ?_, ?_⟩
            · rw [List.map_append, List.sum_append, hts.out, trs_sum S' hs' HL.out.len]
              show S' + (1 + 0) ≤ 8192; omega
            · rw [List.length_append, tl1.out]; show n' + 1 ≤ 4096; omega
            · rw [List.length_append, tl1.out]; rfl)
          have RX : Hid (∀ W, Below wr.heap.size wr W → (readAt (.pointer (some (ld.add (k * 32))))).run Tryd.prog W = .ok (.agg X) W) := Lib.hid fun W hW => by
            rw [hX.out, hx.out]; exact (HL1.out.next (below_new HL.out.ext.below hW) (Nat.le_refl _)).read HHl.out k hkl
          have TT : Hid (∀ W, Below wr.heap.size wr W → TL W A' ts) := Lib.hid fun W hW => by rw [hts.out]; exact HL.out.tl.from hW
          have J1 : Hid (∀ W A3 c3, TL W A3 (ts ++ [((1 : Nat), x)]) → n' + 1 ≤ c3 → c3 ≤ maxLen → Calls Tryd.prog 40 #[.slice A3 (n' + 1) c3] W fun e w' => (∃ A4 c4, e = .returned (.slice A4 (ones (S' + 1)) c4) ∧ ones (S' + 1) ≤ c4 ∧ c4 ≤ maxLen ∧ TL w' A4 (trs 0 (S' + 1) (carry S' hs' x))) ∧ Below W.heap.size W w') := Lib.hid fun W A3 c3 h1 h2 h3 => by
            have := refJoin_any (ts ++ [((1 : Nat), x)]) A3 c3 W (tok.out.app tx.out) h1 HSM.out.1 HSM.out.2.1 (by rw [HSM.out.2.2]; exact h2) h3
            rw [HSM.out.2.2, HJl.out, HJ.out] at this
            exact this
          have HNX : Hid (adds (S' + 1) (carry S' hs' x) (ls.drop (k + 1)) = R ∧ (carry S' hs' x).length = ones (S' + 1) ∧ hashes (carry S' hs' x)) := Lib.hid ⟨by
            have := HL.out.res
            rw [List.drop_eq_getElem_cons hkl] at this
            rw [← this, hx.out, List.getD_eq_getElem?_getD, List.getElem?_eq_getElem hkl]; rfl, carry_length S' hs' x HL.out.len, carry_hashes S' hs' x HL.out.hh hx32.out⟩
          have hsm1 : Hid (n' ≤ 8192) := Lib.hid (by omega)
          have hsm2 : Hid (ts.length + 1 ≤ 8192) := Lib.hid (by rw [tl1.out]; omega)
          clear hkl
          go_upto_region 9 with fail
          refine wp_region_fk (Below wr.heap.size wr) (.get 0 (.get 2 (.get 3 (.get 4 (.get 5 (.get 6 (.fork 1 7 (.call 7 (.call 8 (.call 9 (.get 10 .done)))) (.call 1 (.call 8 (.call 9 (.get 10 .done))))))))))) (by kernel_rfl) rfl (by kernel_rfl) (by kernel_rfl) (by intro c a d v w h; cases d <;> exact h) (Below.refl wr.heap.size wr).drew (fun Q' hQ => ?_)
          have HS := Lib.hid (Below.refl wr.heap.size wr).drew
          have HQ := Lib.hid hQ
          clear hQ
          refine wpFk_get rfl (by rfl) (fun K hK => ?_)
          refine ⟨?_, fun w' hS' => ?_, ?_⟩
          rotate_left
          · go_simp
            try (with_reducible rfl)
          try go_simp
          refine hK _ ?_
          clear hK K
          refine wpFk_get rfl (by rfl) (fun K hK => ?_)
          refine ⟨?_, fun w' hS' => ?_, ?_⟩
          rotate_left
          · go_simp
            try (with_reducible rfl)
          try go_simp
          refine hK _ ?_
          clear hK K
          refine wpFk_get rfl (by rfl) (fun K hK => ?_)
          refine ⟨?_, fun w' hS' => ?_, ?_⟩
          rotate_left
          · go_simp
            try (with_reducible rfl)
          try go_simp
          refine hK _ ?_
          clear hK K
          refine wpFk_get rfl (by rfl) (fun K hK => ?_)
          refine ⟨?_, fun w' hS' => ?_, ?_⟩
          rotate_left
          · go_simp
            try (with_reducible rfl)
          try go_simp
          refine hK _ ?_
          clear hK K
          refine wpFk_get rfl (by rfl) (fun K hK => ?_)
          refine ⟨_, fun w' hS' => get_load rfl rfl (RX.out _ hS'), ?_⟩
          try go_simp
          refine hK _ ?_
          clear hK K
          refine wpFk_get rfl (by rfl) (fun K hK => ?_)
          refine ⟨_, fun w' hS' => get_buildT rfl rfl rfl zX.out, ?_⟩
          try go_simp
          refine hK _ ?_
          clear hK K
          refine wpFk_fork ?_ ?_
          · refine wpFk_call rfl (by rfl) (fun K hK => ?_)
            refine wp_appendTC (.const (.slice none 0 0)) (.tmp 27) rfl wr.heap.size ts rfl A' n' c' rfl tl1.out.symm tok.out (TT.out _ HS.out) hsm1.out HS.out.size ?_
            intro v1 w4 ho hg
            have HO : Hid (ownT w4 wr.heap.size v1 ts) := Lib.hid ho
            replace HS := Lib.hid (HS.out.grown hg HS.out.size (by intro k hk; simp at hk))
            clear ho hg
            try go_simp
            refine hK _ _ HS.out ?_
            clear hK K
            refine wpFk_call rfl (by rfl) (fun K hK => ?_)
            refine wp_buildTree (.tmp 33) rfl (treeV 1 X) rfl (treeV_size _ _ zX.out) ?_
            intro w6 hr hb
            have HRt := Lib.hid hr
            replace HO : Hid (ownT w6 wr.heap.size v1 ts) := Lib.hid (own_below HO.out hb)
            replace HS := Lib.hid (below_new HS.out hb)
            clear hr hb
            try go_simp
            refine hK _ _ HS.out ?_
            clear hK K
            refine wpFk_call rfl (by rfl) (fun K hK => ?_)
            refine wp_appendT (.tmp 28) (.tmp 34) rfl wr.heap.size v1 ts [((1 : Nat), x)] rfl HO.out _ 1 1 rfl rfl tx.out (TL.row (by rw [← hX.out]; exact HRt.out)) hsm2.out HS.out.size ?_
            intro v2 w7 ho hg
            replace HS := Lib.hid (HS.out.grown hg HS.out.size (fun k hk => (HO.out.lt k hk).1))
            obtain ⟨A2, c2, hv2, hc2, hm2, htl⟩ := ho.lead
            rw [HSM.out.2.2] at hv2 hc2
            subst hv2
            have HTL := Lib.hid (And.intro hc2 (And.intro hm2 htl))
            clear ho hg hc2 hm2 htl
            try go_simp
            refine hK _ _ HS.out ?_
            clear hK K
            refine wpFk_call rfl (by rfl) (fun K hK => ?_)
            go_simp
            go_at_call 40
            refine (J1.out _ _ _ HTL.out.2.2 HTL.out.1 HTL.out.2.1).mono ?_
            rintro e w8 ⟨⟨A4, c4, rfl, h1, h2, h3⟩, hb⟩
            have HT4 := Lib.hid (And.intro h1 (And.intro h2 h3))
            replace HS := Lib.hid (below_new HS.out hb)
            clear h1 h2 h3 hb
            refine hK _ _ HS.out ?_
            clear hK K
            refine wpFk_get rfl (by rfl) (fun K hK => ?_)
            refine ⟨?_, fun w' hS' => ?_, ?_⟩
            rotate_left
            · go_simp
              try (with_reducible rfl)
            try go_simp
            refine hK _ ?_
            clear hK K
            refine wpFk_done ?_
            refine HQ.out _ _ ?_
            go_wp2
            go_roundw
            case rel => exact ⟨k + 1, S' + 1, ones (S' + 1), c4, A4, carry S' hs' x, rfl, by go_num, by omega, Lib.hid (by rw [hS'.out]; omega), Lib.hid ⟨HL.out.ext.next HS.out, HT4.out.2.2, HNX.out.2.1, HNX.out.2.2, HNX.out.1, rfl, HT4.out.1, HT4.out.2.1⟩⟩
            case measure => simp [intOf]; omega
          · refine wpFk_call rfl (by rfl) (fun K hK => ?_)
            refine wp_buildTree (.tmp 33) rfl (treeV 1 X) rfl (treeV_size _ _ zX.out) ?_
            intro w6 hr hb
            have HRt := Lib.hid hr
            replace HS := Lib.hid (below_new HS.out hb)
            clear hr hb
            try go_simp
            refine hK _ _ HS.out ?_
            clear hK K
            refine wpFk_call rfl (by rfl) (fun K hK => ?_)
            refine wp_appendTC (.const (.slice none 0 0)) (.tmp 27) rfl wr.heap.size ts rfl A' n' c' rfl tl1.out.symm tok.out (TT.out _ HS.out) hsm1.out HS.out.size ?_
            intro v1 w4 ho hg
            have HO : Hid (ownT w4 wr.heap.size v1 ts) := Lib.hid ho
            replace HRt := Lib.hid (HRt.out.grown hg (by simp))
            replace HS := Lib.hid (HS.out.grown hg HS.out.size (by intro k hk; simp at hk))
            clear ho hg
            try go_simp
            refine hK _ _ HS.out ?_
            clear hK K
            refine wpFk_call rfl (by rfl) (fun K hK => ?_)
            refine wp_appendT (.tmp 28) (.tmp 34) rfl wr.heap.size v1 ts [((1 : Nat), x)] rfl HO.out _ 1 1 rfl rfl tx.out (TL.row (by rw [← hX.out]; exact HRt.out)) hsm2.out HS.out.size ?_
            intro v2 w7 ho hg
            replace HS := Lib.hid (HS.out.grown hg HS.out.size (fun k hk => (HO.out.lt k hk).1))
            obtain ⟨A2, c2, hv2, hc2, hm2, htl⟩ := ho.lead
            rw [HSM.out.2.2] at hv2 hc2
            subst hv2
            have HTL := Lib.hid (And.intro hc2 (And.intro hm2 htl))
            clear ho hg hc2 hm2 htl
            try go_simp
            refine hK _ _ HS.out ?_
            clear hK K
            refine wpFk_call rfl (by rfl) (fun K hK => ?_)
            go_simp
            go_at_call 40
            refine (J1.out _ _ _ HTL.out.2.2 HTL.out.1 HTL.out.2.1).mono ?_
            rintro e w8 ⟨⟨A4, c4, rfl, h1, h2, h3⟩, hb⟩
            have HT4 := Lib.hid (And.intro h1 (And.intro h2 h3))
            replace HS := Lib.hid (below_new HS.out hb)
            clear h1 h2 h3 hb
            refine hK _ _ HS.out ?_
            clear hK K
            refine wpFk_get rfl (by rfl) (fun K hK => ?_)
            refine ⟨?_, fun w' hS' => ?_, ?_⟩
            rotate_left
            · go_simp
              try (with_reducible rfl)
            try go_simp
            refine hK _ ?_
            clear hK K
            refine wpFk_done ?_
            refine HQ.out _ _ ?_
            go_wp2
            go_roundw
            case rel => exact ⟨k + 1, S' + 1, ones (S' + 1), c4, A4, carry S' hs' x, rfl, by go_num, by omega, Lib.hid (by rw [hS'.out]; omega), Lib.hid ⟨HL.out.ext.next HS.out, HT4.out.2.2, HNX.out.2.1, HNX.out.2.2, HNX.out.1, rfl, HT4.out.1, HT4.out.2.1⟩⟩
            case measure => simp [intOf]; omega
        · have hkm2 : k = m := by omega
          have HD : Hid (hs' = R) := Lib.hid (by
            have := HL.out.res
            rw [List.drop_of_length_le (by rw [← hm.out]; omega)] at this
            exact this)
          have hSt : S' = t := by rw [hS'.out, ht.out, hkm2]
          subst hSt
          obtain ⟨q, hq⟩ : ∃ q, Hid (q = R.length) := ⟨_, Lib.hid rfl⟩
          have hqn : q = n' := by rw [hq.out, ← HD.out, HL.out.len, HL.out.ln]
          have K1 : Hid (Calls Tryd.prog 41 #[.slice A' n' c'] wr fun e w' => ∃ A9 c9, e = .returned (.agg #[.int .i64 (S' : Int), .slice A9 q c9]) ∧ OwnL wr w' (.slice A9 q c9) q R) := Lib.hid (by
            have hlen := HL.out.len
            have := refClose_any (trs 0 S' hs') A' c' wr (trs_okT _ _ _ HL.out.hh) HL.out.tl (by rw [trs_sum S' hs' hlen]; omega) (by rw [trs_length 0 S' hs' hlen, ← HL.out.ln]; have := ones_le 13 S' (by omega); rw [HL.out.ln]; omega) (by rw [trs_length 0 S' hs' hlen, ← HL.out.ln]; exact HL.out.c1)
            rw [trs_sum S' hs' hlen, trs_length 0 S' hs' hlen, trs_hashes 0 S' hs' hlen, ← HL.out.ln, ← hqn, HD.out] at this
            rw [← hqn]
            exact this)
          have HE := Lib.hid HL.out.ext
          clear hqn HL
          go_wp2_with (go_at_call 41; (with_reducible refine K1.out.mono ?_); rintro e w3 ⟨A9, c9, rfl, ho⟩; have HZ := Lib.hid (HE.out.next ho.2); have HO := Lib.hid ho; clear ho; have d0 := HZ.out.2.1.cell 0; have d1 := HZ.out.2.1.cell 1; have f0 := HZ.out.2.1.free 0; have f1 := HZ.out.2.1.free 1)
          have HD2 := HZ.out.done (s' := (S' : Int)) (own_base HO.out.1 (by have h1 := HE.out.2.1.lt; omega))
          have q0 := HD2.1.cell 0
          have q1 := HD2.1.cell 1
          refine bodyPost_ret (v := .tuple #[.agg #[.int .i64 (S' : Int), .slice A9 q c9], .int .i64 0]) (by simp [results, Tryd.results14, go_sem, q0, q1]) rfl ?_
          unfold GivesR
          rw [HF.out]
          exact ⟨A9, c9, by rw [← hq.out], by rw [← hq.out]; exact HD2.2⟩
end Go.Proofs.YtfakimbneenfdaaDoor
namespace Go.Proofs.YtfakimbneenfdaaDoor
open Go.RowKit Go.Great
set_option linter.unusedVariables false
set_option maxRecDepth 100000

/-- A hash is put behind, the size stays. -/
theorem CloseH.step1 {w wr w2 : World} {s : Nat} {A A' : Option Addr} {k k' c c' : Nat} {hs hs' : List (List Int)} (h : CloseH w wr s A k c hs) (ho : w2.ownsRow (w.heap.size + 2) 31 32 (.slice A' k' c') k' (cellsL hs')) (hg : wr.grownBy w2 (Value.slice A k c).ownBlock) :
    Row w2 (w.heap.size + 1) 24 #[.int .i64 (s : Int), .slice A k c] ∧ CloseH w (w2.setCell ⟨w.heap.size + 1, 1, none⟩ (.slice A' k' c')) s A' k' c' hs' := by
  have hne : ∀ b, b < w.heap.size + 2 → some b ≠ (Value.slice A k c).ownBlock := fun b hb e => by have := h.own.lt b e.symm; omega
  have r0 := h.out.grown hg (hne _ (by omega))
  have r1 := h.rg.grown hg (hne _ (by omega))
  have hb : Below w.heap.size w w2 := h.below.grown hg (by have := h.size; omega) (fun b e => by have := h.own.lt b e; omega)
  have hh : ∀ b, w.heap.size + 2 ≤ b → b < w2.heap.size → (w2.setCell ⟨w.heap.size + 1, 1, none⟩ (.slice A' k' c')).heap[b]? = w2.heap[b]? := fun b hb _ =>
    Below.heap_setCell _ _ _ b (by show b ≠ w.heap.size + 1; omega)
  refine ⟨r1, r0.far (by show w.heap.size ≠ w.heap.size + 1; omega) _, r1.put 1 _, own_at ho hh, hb.setCell (by show w.heap.size ≤ w.heap.size + 1; omega) _, ?_⟩
  have e := hg.size
  have := h.size
  simp; omega
theorem chunks_more (b : Nat) (ls : List (List Int)) (h : 2 ^ b ≤ ls.length) : chunks (b + 1) ls = rootL (ls.take (2 ^ b)) :: chunks b (ls.drop (2 ^ b)) := by
  conv => lhs; unfold chunks
  rw [if_pos h]
theorem chunks_less (b : Nat) (ls : List (List Int)) (h : ¬ 2 ^ b ≤ ls.length) : chunks (b + 1) ls = chunks b ls := by
  conv => lhs; unfold chunks
  rw [if_neg h]
theorem half_pow (b : Nat) : 2 ^ (b + 1) / 2 = 2 ^ b := by rw [Nat.pow_succ]; omega
theorem chunks_len (b : Nat) : ∀ ls : List (List Int), (chunks b ls).length ≤ b := by
  induction b with
  | zero => intro ls; exact Nat.le_refl _
  | succ b ih =>
    intro ls
    by_cases h : 2 ^ b ≤ ls.length
    · rw [chunks_more b ls h, List.length_cons]; have := ih (ls.drop (2 ^ b)); omega
    · rw [chunks_less b ls h]; have := ih ls; omega
theorem hashes_snoc_chunks {acc : List (List Int)} {y : List Int} (h : hashes acc) (hy : y.length = 32 ∧ bytes y) : hashes (acc ++ [y]) := hashes_snoc h hy
attribute [local go_sem ↓ high] read_at write_at
set_option maxHeartbeats 8000000 in
theorem refOf_any (w : World) (LA : Option Addr) (lc : Nat) (ls : List (List Int)) (hl : hashes ls) (hL : HL w w.heap.size LA ls) (hlc : ls.length ≤ lc) (hlm : lc ≤ maxLen) (hsm : ls.length ≤ 100000) :
    Calls Tryd.prog 26 #[.slice LA ls.length lc] w (GivesR w (extF 0 [] ls)) := by
  obtain ⟨m, hm⟩ : ∃ m, Hid (m = ls.length) := ⟨_, Lib.hid rfl⟩
  have hmm : m ≤ 100000 := by rw [hm.out]; exact hsm
  rw [← hm.out] at hlc ⊢
  have hlc2 : lc ≤ 9223372036854775807 := by unfold maxLen at hlm; omega
  have HO : Hid (Row (w.alloc (.cells #[.int .i64 0, .slice none 0 0] 24)) w.heap.size 24 #[.int .i64 0, .slice none 0 0] ∧ Below w.heap.size w (w.alloc (.cells #[.int .i64 0, .slice none 0 0] 24))) := Lib.hid ⟨Row.made _ _ _, (Below.refl _ _).alloc (Nat.le_refl _) _⟩
  by_cases hfull : 4096 < m
  · have df : decide (4096 < (m : Int)) = true := decide_eq_true (by omega)
    have df2 : (4096 : Int) < (m : Int) := by omega
    have HF : Hid (extF 0 [] ls = (0, [], 60)) := Lib.hid (extF_full (validB_yes ⟨by decide, by decide, by rw [show (0 : Int).toNat = 0 from rfl, ones_zero]; rfl⟩) (by rw [← hm.out]; omega))
    clear hl hL hlc hlm
    go_enter Tryd.func26, Tryd.ntmps26
    go_upto_region 1 with fail
    refine world_gen (fun wx => Row wx w.heap.size 24 #[.int .i64 0, .slice none 0 0] ∧ Below w.heap.size w wx) HO.out (fun wx HX => ?_)
    have HX := Lib.hid HX
    have d0 := HX.out.1.cell 0
    have d1 := HX.out.1.cell 1
    have f0 := HX.out.1.free 0
    have f1 := HX.out.1.free 1
    go_wp2
    have HD := (HX.out.1.put 0 (.int .i64 0)).put 1 (.slice none 0 0)
    have q0 := HD.cell 0
    have q1 := HD.cell 1
    refine bodyPost_ret (v := .tuple #[.agg #[.int .i64 0, .slice none 0 0], .int .i64 60]) (by simp [results, Tryd.results26, go_sem, q0, q1]) rfl ?_
    unfold GivesR
    rw [HF.out]
    exact ⟨none, 0, rfl, ⟨rfl, .inl ⟨rfl, rfl⟩⟩, (HX.out.2.setCell (Nat.le_refl _) _).setCell (Nat.le_refl _) _⟩
  · have df : decide (4096 < (m : Int)) = false := decide_eq_false (by omega)
    have df2 : ¬ (4096 : Int) < (m : Int) := by omega
    obtain ⟨R, hR⟩ : ∃ R, Hid (R = chunks 13 ls) := ⟨_, Lib.hid rfl⟩
    have HF : Hid (extF 0 [] ls = ((m : Int), R, 0)) := Lib.hid (by
      rw [extF_ok (validB_yes ⟨by decide, by decide, by rw [show (0 : Int).toNat = 0 from rfl, ones_zero]; rfl⟩) (by rw [← hm.out]; omega), ← hm.out, hR.out, ← adds_chunks ls (by rw [← hm.out]; omega), Int.zero_add]; rfl)
    have hR13 : Hid (R.length ≤ 13) := Lib.hid (by rw [hR.out]; exact chunks_len 13 ls)
    have HL0 : Hid (HL w w.heap.size LA ls ∧ hashes ls ∧ ls.length < 2 ^ 13 ∧ ([] : List (List Int)) ++ chunks 13 ls = R) := Lib.hid ⟨hL, hl, by rw [← hm.out]; omega, by rw [hR.out]; rfl⟩
    clear hl hL hsm
    go_enter Tryd.func26, Tryd.ntmps26
    go_upto_region 1 with fail
    refine world_gen (fun wx => Row wx w.heap.size 24 #[.int .i64 0, .slice none 0 0] ∧ Below w.heap.size w wx ∧ wx.heap.size = w.heap.size + 1) ⟨HO.out.1, HO.out.2, by simp⟩ (fun wx HX => ?_)
    have HX := Lib.hid HX
    have hwxs : wx.heap.size = w.heap.size + 1 := HX.out.2.2
    have HR0 := Lib.hid (Row.made wx 24 #[.int .i64 0, .slice none 0 0])
    have d0 := HR0.out.cell 0
    have d1 := HR0.out.cell 1
    have f0 := HR0.out.free 0
    have f1 := HR0.out.free 1
    go_upto_region 4 with fail
    refine world_gen (fun wy => CloseH w wy m none 0 0 []) ?start (fun wy HC0 => ?_)
    case start =>
      have hb1 : Below wx.heap.size wx (wx.alloc (.cells #[.int .i64 (m : Int), .slice none 0 0] 24)) := (Below.refl _ _).alloc (Nat.le_refl _) _
      have hrow := Row.made wx 24 #[.int .i64 (m : Int), .slice none 0 0]
      have hout := HX.out.1.next hb1
      have hbel := HX.out.2.1.alloc HX.out.2.1.size (.cells #[.int .i64 (m : Int), .slice none 0 0] 24)
      rw [hwxs] at hrow
      exact ⟨hout, hrow, ⟨rfl, .inl ⟨rfl, rfl⟩⟩, hbel, by simp; omega⟩
    have HC0 := Lib.hid HC0
    clear d0 d1 f0 f1 HR0 HX HO
    go_wp2
    go_loopw [0, 5] (fun s0 s5 wr => ∃ (b m' c' q qc : Nat) (A' A : Option Addr) (ls' acc : List (List Int)), s0 = .slice A' m' c' ∧ s5 = .int .i64 ((2 ^ b / 2 : Nat) : Int) ∧ b ≤ 13 ∧ m' ≤ c' ∧ c' ≤ 9223372036854775807 ∧ Hid (m' = ls'.length ∧ HL w w.heap.size A' ls' ∧ hashes ls' ∧ ls'.length < 2 ^ b ∧ acc ++ chunks b ls' = R) ∧ Hid (hashes acc ∧ q = acc.length) ∧ Hid (CloseH w wr m A q qc acc)) (fun _ s5 _ => (intOf s5).toNat)
    case atStart => exact ⟨13, m, lc, 0, 0, LA, none, ls, [], rfl, rfl, Nat.le_refl _, hlc, hlc2, Lib.hid ⟨hm.out, HL0.out⟩, Lib.hid ⟨fun _ h => (nomatch h), rfl⟩, HC0⟩
    case round =>
      clear HC0 HL0
      obtain ⟨b, m', c', q, qc, A', A, ls', acc, rfl, rfl, hb, hmc, hcm, HI, HA, HC⟩ := hrel
      cases b with
      | zero =>
        have hK : Hid (acc = R) := Lib.hid (by
          have := HI.out.2.2.2.2
          rw [show chunks 0 ls' = [] from rfl, List.append_nil] at this
          exact this)
        have e0 : ((2 ^ 0 / 2 : Nat) : Int) = 0 := by decide
        have c0 := HC.out.rg.cell 0
        have c1 := HC.out.rg.cell 1
        have d0 := HC.out.out.cell 0
        have d1 := HC.out.out.cell 1
        have f0 := HC.out.out.free 0
        have f1 := HC.out.out.free 1
        have hqR : Hid (q = R.length) := Lib.hid (by rw [HA.out.2, hK.out])
        rw [e0]
        go_wp2
        have HO := (HC.out.out.put 0 (.int .i64 (m : Int))).put 1 (.slice A q qc)
        have HB : Below w.heap.size wr ((wr.setCell ⟨w.heap.size, 0, none⟩ (.int .i64 (m : Int))).setCell ⟨w.heap.size, 1, none⟩ (.slice A q qc)) := ((Below.refl _ _).mono HC.out.below.size |>.setCell (Nat.le_refl _) _).setCell (Nat.le_refl _) _
        have q0 := HO.cell 0
        have q1 := HO.cell 1
        refine bodyPost_ret (v := .tuple #[.agg #[.int .i64 (m : Int), .slice A q qc], .int .i64 0]) (by simp [results, Tryd.results26, go_sem, q0, q1]) rfl ?_
        unfold GivesR
        rw [HF.out]
        refine ⟨A, qc, by rw [hqR.out], ?_, HC.out.below.trans HB⟩
        show World.ownsRow _ _ _ _ (.slice A R.length qc) R.length (cellsL R)
        rw [← hqR.out, ← hK.out]
        exact own_base (own_at (W := (wr.setCell ⟨w.heap.size, 0, none⟩ (.int .i64 (m : Int))).setCell ⟨w.heap.size, 1, none⟩ (.slice A q qc)) HC.out.own (fun b hb _ => (Below.heap_setCell _ _ _ b (by show b ≠ w.heap.size; omega)).trans (Below.heap_setCell _ _ _ b (by show b ≠ w.heap.size; omega)))) (by omega)
      | succ b =>
        obtain ⟨K, hK⟩ : ∃ K : Nat, Hid (K = 2 ^ b) := ⟨_, Lib.hid rfl⟩
        have hKe : 2 ^ (b + 1) / 2 = K := by rw [half_pow, hK.out]
        rw [hKe]
        have hK1 : 1 ≤ K := by rw [hK.out]; exact Nat.two_pow_pos b
        have hK2 : K ≤ 4096 := by rw [hK.out]; exact Nat.pow_le_pow_right (n := 2) (by omega) (show b ≤ 12 by omega)
        have ek : (K : Int).tdiv 2 = ((2 ^ b / 2 : Nat) : Int) := by rw [Int.tdiv_eq_ediv_of_nonneg (by omega), hK.out]; omega
        have ek2 : (K : Int) / 2 = ((2 ^ b / 2 : Nat) : Int) := by rw [hK.out]; omega
        have k0 : (0 : Int) < (K : Int) := by omega
        have k01 : 0 < K := by omega
        have hwK : IntKind.i64.wrap (K : Int) = (K : Int) := by rw [IntKind.wrap_i64]; omega
        obtain ⟨K2, hKK⟩ : ∃ K2 : Nat, Hid (K2 = 2 ^ b / 2) := ⟨_, Lib.hid rfl⟩
        rw [← hKK.out] at ek ek2
        have hKl : K2 < K := by rw [hKK.out, ← hK.out]; omega
        clear hKe
        by_cases hle : K ≤ m'
        · have dl : decide ((K : Int) ≤ (m' : Int)) = true := decide_eq_true (by omega)
          have dl2 : decide (K ≤ m') = true := decide_eq_true hle
          have b1 : (K : Int) ≤ (m' : Int) := by omega
          have b2 : (K : Int) ≤ (c' : Int) := by omega
          have b3 : (m' : Int) ≤ (c' : Int) := by omega
          have b5 : ((m' : Int) - (K : Int)).toNat = m' - K := by omega
          have b6 : ((c' : Int) - (K : Int)).toNat = c' - K := by omega
          obtain ⟨ad, rfl⟩ := HI.out.2.1.some 0 (by rw [← HI.out.1]; omega)
          obtain ⟨y, hy⟩ : ∃ y, Hid (y = rootL (ls'.take K)) := ⟨_, Lib.hid rfl⟩
          obtain ⟨C, hC⟩ : ∃ C, Hid (C = nums .u8 y) := ⟨_, Lib.hid rfl⟩
          have lt1 : (ls'.take K).length = K := by rw [List.length_take, ← HI.out.1]; omega
          have hy32 : Hid (y.length = 32 ∧ bytes y) := Lib.hid (by rw [hy.out]; exact rootL_is _ (hashes_take HI.out.2.2.1 K))
          have zC : Hid (C.size = 32) := Lib.hid (by rw [hC.out, nums_size]; exact hy32.out.1)
          have X1 : Hid (∀ W, Below w.heap.size w W → Calls Tryd.prog 49 #[.slice (some ad) K c'] W fun ev w' => ev = .returned (.agg C) ∧ Below W.heap.size W w') := Lib.hid fun W hW => by
            have := refRoot_any (ls'.take K).length (ls'.take K) (some ad) c' W (Nat.le_refl _) (hashes_take HI.out.2.2.1 K) (((HI.out.2.1.next hW (Nat.le_refl _)).more hW.size).take K) (by rw [lt1]; omega) hcm
            rwa [lt1, ← hy.out, ← hC.out] at this
          obtain ⟨AX, eAX⟩ : ∃ Z, (if c' = K then some ad else some (ad.add (K * 32))) = Z := ⟨_, rfl⟩
          have HN : Hid (m' - K = (ls'.drop K).length ∧ HL w w.heap.size AX (ls'.drop K) ∧ hashes (ls'.drop K) ∧ (ls'.drop K).length < 2 ^ b ∧ (acc ++ [y]) ++ chunks b (ls'.drop K) = R) := Lib.hid ⟨by rw [List.length_drop, ← HI.out.1], by rw [← eAX]; exact HL.rest HI.out.2.1 c' K (by rw [← HI.out.1]; exact hmc), hashes_drop HI.out.2.2.1 K, by
            have := HI.out.2.2.2.1
            rw [List.length_drop, hK.out]
            rw [Nat.pow_succ] at this
            omega, by
            have := HI.out.2.2.2.2
            rw [chunks_more b ls' (by rw [← hK.out, ← HI.out.1]; exact hle), ← hK.out, ← hy.out] at this
            rw [← this]; simp⟩
          have HNA : Hid (hashes (acc ++ [y]) ∧ q + 1 = (acc ++ [y]).length) := Lib.hid ⟨hashes_snoc HA.out.1 hy32.out, by rw [List.length_append, HA.out.2]; rfl⟩
          have hq8 : Hid (q + 1 ≤ 8192) := Lib.hid (by
            have := congrArg List.length HN.out.2.2.2.2
            rw [List.length_append, ← HNA.out.2] at this
            have := hR13.out
            omega)
          clear lt1 HI
          go_upto_region 8 with fail
          refine wp_region_sq (fun W => Below w.heap.size w W) (fun W => Row W (w.heap.size + 1) 24 #[.int .i64 (m : Int), .slice A q qc]) 12 [(0, 0), (1, 1), (0, 2), (0, 3), (0, 4), (0, 8), (0, 9), (0, 10), (2, 5), (2, 6), (2, 7), (0, 11), (3, 12), (0, 13)] (by kernel_rfl) rfl (by kernel_rfl) (by kernel_rfl) (by intro c a d v w h; cases d <;> exact h) (⟨HC.out.below.drew, HC.out.rg.drew⟩) (fun Q' hQ => ?_)
          have HQ := Lib.hid hQ
          clear hQ
          refine wpSq_get rfl (by rfl) (fun K hK => ?_)
          refine ⟨?_, fun w' hS' => ?_, ?_⟩
          rotate_left
          · go_simp
            try (with_reducible rfl)
          try go_simp
          refine hK _ ?_
          clear hK K
          refine wpSq_early rfl (by rfl) (fun K hK => ?_)
          refine ⟨?_, fun w' hS' => ?_, ?_⟩
          rotate_left
          · have c1 := hS'.2.cell 1
            go_simp
            try (with_reducible rfl)
          try go_simp
          refine hK _ ?_
          clear hK K
          refine wpSq_get rfl (by rfl) (fun K hK => ?_)
          refine ⟨?_, fun w' hS' => ?_, ?_⟩
          rotate_left
          · go_simp
            try (with_reducible rfl)
          try go_simp
          refine hK _ ?_
          clear hK K
          refine wpSq_get rfl (by rfl) (fun K hK => ?_)
          refine ⟨?_, fun w' hS' => ?_, ?_⟩
          rotate_left
          · go_simp
            try (with_reducible rfl)
          try go_simp
          refine hK _ ?_
          clear hK K
          refine wpSq_get rfl (by rfl) (fun K hK => ?_)
          refine ⟨?_, fun w' hS' => ?_, ?_⟩
          rotate_left
          · go_simp
            try (with_reducible rfl)
          try go_simp
          refine hK _ ?_
          clear hK K
          refine wpSq_get rfl (by rfl) (fun K hK => ?_)
          refine ⟨?_, fun w' hS' => ?_, ?_⟩
          rotate_left
          · go_simp
            try (with_reducible rfl)
          try go_simp
          refine hK _ ?_
          clear hK K
          refine wpSq_get rfl (by rfl) (fun K hK => ?_)
          refine ⟨?_, fun w' hS' => ?_, ?_⟩
          rotate_left
          · go_simp
            try (with_reducible rfl)
          try go_simp
          refine hK _ ?_
          clear hK K
          refine wpSq_get rfl (by rfl) (fun K hK => ?_)
          refine ⟨?_, fun w' hS' => ?_, ?_⟩
          rotate_left
          · go_simp
            try (with_reducible rfl)
          try go_simp
          refine hK _ ?_
          clear hK K
          refine wpSq_call rfl (by rfl) (fun K hK => ?_)
          go_simp
          go_at_call 49
          refine (X1.out _ HC.out.below.drew).mono ?_
          rintro e w5 ⟨rfl, hb5⟩
          have HB5 : Hid (Below wr.heap.size wr w5) := Lib.hid ((Below.refl wr.heap.size wr).drew.trans hb5)
          clear hb5
          refine hK _ _ (⟨HC.out.below.trans (HB5.out.mono HC.out.below.size), HC.out.rg.next HB5.out⟩) ?_
          clear hK K
          refine wpSq_call rfl (by rfl) (fun K hK => ?_)
          refine wp_buildOne (.tmp 26) rfl C rfl zC.out ?_
          have HR1 := Lib.hid (Row.made w5 31 C)
          have HB1 : Hid (Below wr.heap.size wr (w5.alloc (.cells C 31))) := Lib.hid (HB5.out.alloc HB5.out.size _)
          try go_simp
          refine hK _ _ (⟨HC.out.below.trans (HB1.out.mono HC.out.below.size), HC.out.rg.next HB1.out⟩) ?_
          clear hK K
          refine wpSq_call rfl (by rfl) (fun K hK => ?_)
          refine wp_appendH (.tmp 22) (.tmp 27) rfl (w.heap.size + 2) (.slice A q qc) q acc [y] rfl (own_below HC.out.own HB1.out) _ 1 1 rfl rfl (fun l hl => by rw [List.mem_singleton.1 hl]; exact hy32.out) (HL.row (by rw [← hC.out]; exact HR1.out) hy32.out.1) hq8.out (Nat.le_trans HC.out.size HB1.out.size) ?_
          intro v2 w7 ho hg
          obtain ⟨A2, c2, rfl⟩ := own_form ho
          have HG7 := grown_trans (grown_of_below HB1.out _) hg
          have HY := Lib.hid (HC.out.step1 ho HG7)
          have HB7 : Hid (Below w.heap.size w w7) := Lib.hid (HC.out.below.grown HG7 HC.out.below.size (fun b e => by have := HC.out.own.lt b e; omega))
          clear ho hg HG7
          have z1 := HY.out.1.cell 1
          have f1 := HY.out.1.free 1
          try go_simp
          refine hK _ _ (⟨HB7.out, HY.out.1⟩) ?_
          clear hK K
          refine wpSq_get rfl (by rfl) (fun K hK => ?_)
          refine ⟨?_, fun w' hS' => ?_, ?_⟩
          rotate_left
          · go_simp
            try (with_reducible rfl)
          try go_simp
          refine hK _ ?_
          clear hK K
          refine wpSq_late rfl (by rfl) (fun K hK => ?_)
          go_simp
          refine hK _ _ (HB7.out.setCell (by show w.heap.size ≤ w.heap.size + 1; omega) _) ?_
          clear hK K
          refine wpSq_get rfl (by rfl) (fun K hK => ?_)
          refine ⟨?_, fun w' hS' => ?_, ?_⟩
          rotate_left
          · go_simp
            try (with_reducible rfl)
          try go_simp
          refine hK _ ?_
          clear hK K
          refine wpSq_done ?_
          refine HQ.out _ _ ?_
          go_wp2
          go_roundw
          case rel => exact ⟨b, m' - K, c' - K, q + 1, c2, AX, A2, ls'.drop K, acc ++ [y], rfl, by rw [← hKK.out], by omega, by omega, by omega, HN, HNA, Lib.hid HY.out.2⟩
          case measure => simp [intOf]; omega
        · have dl : decide ((K : Int) ≤ (m' : Int)) = false := decide_eq_false (by omega)
          have dl2 : decide (K ≤ m') = false := decide_eq_false hle
          have dl3 : ¬ (K : Int) ≤ (m' : Int) := by omega
          have HN : Hid (m' = ls'.length ∧ HL w w.heap.size A' ls' ∧ hashes ls' ∧ ls'.length < 2 ^ b ∧ acc ++ chunks b ls' = R) := Lib.hid ⟨HI.out.1, HI.out.2.1, HI.out.2.2.1, by rw [← HI.out.1, ← hK.out]; omega, by
            have := HI.out.2.2.2.2
            rw [chunks_less b ls' (by rw [← hK.out, ← HI.out.1]; exact hle)] at this
            exact this⟩
          clear HI
          go_wp2
          go_roundw
          case rel => exact ⟨b, m', c', q, qc, A', A, ls', acc, rfl, by rw [← hKK.out], by omega, hmc, hcm, HN, HA, HC⟩
          case measure => simp [intOf]; omega
end Go.Proofs.YtfakimbneenfdaaDoor
namespace Go.Proofs.YtfakimbneenfdaaDoor
open Go.RowKit Go.Great
set_option linter.unusedVariables false
set_option maxRecDepth 100000

attribute [local go_sem ↓ high] read_at write_at
set_option maxHeartbeats 4000000 in
theorem refPart_some (w : World) (f : Nat) (ls : List (List Int)) (hh : hashes ls) (A : Option Addr) (c : Nat) (hA : HL w w.heap.size A ls) (hc : ls.length ≤ c) (hcm : c ≤ maxLen) (ht : f + ls.length ≤ 4096) :
    Calls Tryd.prog 23 #[.int .i64 (f : Int), .slice A ls.length c] w fun e w' => (∃ A' c', e = .returned (.tuple #[.slice A' (rootsL f ls).length c', .int .i64 0]) ∧ (rootsL f ls).length ≤ c' ∧ c' ≤ maxLen ∧ HL w' w'.heap.size A' (rootsL f ls)) ∧ Below w.heap.size w w' := by
  obtain ⟨i0, hi, hz0, hz1, hz2⟩ := info_parts infoHash
  unfold maxLen at hcm
  obtain ⟨n, hn⟩ : ∃ n, Hid (n = ls.length) := ⟨_, Lib.hid rfl⟩
  rw [← hn.out] at hc ht ⊢
  obtain ⟨t, htt⟩ : ∃ t : Nat, Hid (t = f + n) := ⟨_, Lib.hid rfl⟩
  have e1 : (f : Int) + (n : Int) = (t : Int) := by rw [htt.out]; omega
  have htm : t ≤ 4096 := by rw [htt.out]; omega
  obtain ⟨ns, hns⟩ : ∃ ns, Hid (ns = partsL f t) := ⟨_, Lib.hid rfl⟩
  obtain ⟨q, hq⟩ : ∃ q, Hid (q = ns.length) := ⟨_, Lib.hid rfl⟩
  have hq1 : q ≤ 4096 := by rw [hq.out, hns.out]; have := partsL_length f t; omega
  have hroots : Hid (rootsL f ls = rootsOf ns ls) := Lib.hid (by rw [hns.out, htt.out, hn.out]; rfl)
  have P1 : Hid (∀ W, Calls Tryd.prog 48 #[.int .i64 (f : Int), .int .i64 (t : Int)] W fun e w' => (∃ A c, e = .returned (.slice A q c) ∧ IL w' w'.heap.size A ns) ∧ Below W.heap.size W w') := Lib.hid fun W => by
    have hft : f ≤ t := by rw [htt.out]; omega
    refine (refParts_any f t hft htm W).mono ?_
    rintro e w' ⟨⟨A, c, rfl, _, _, h⟩, hb⟩
    rw [hq.out, hns.out]
    exact ⟨⟨A, c, rfl, h⟩, hb⟩
  have HA := Lib.hid hA
  have HH := Lib.hid hh
  have hcc : c ≤ 9223372036854775807 := by omega
  have d1 : decide ((f : Int) < 0) = false := decide_eq_false (by omega)
  have d2 : decide (4096 < (f : Int)) = false := decide_eq_false (by omega)
  have d3 : decide (4096 < (t : Int)) = false := decide_eq_false (by omega)
  have hwt : IntKind.i64.wrap (t : Int) = (t : Int) := by rw [IntKind.wrap_i64]; omega
  clear hA hh hcm
  go_enter Tryd.func23, Tryd.ntmps23
  go_wp2_with (go_at_call 48; (with_reducible refine (P1.out _).mono ?_); rintro e w1 ⟨⟨P, pc, rfl, hI⟩, hb⟩; have HB := Lib.hid hb; have HI := Lib.hid hI; clear hb hI)
  go_loopw [1, 7, 8] (fun s1 s7 s8 wr => ∃ (k g : Nat) (A' : Option Addr) (m c' : Nat) (ls' acc : List (List Int)) (v : Value), s8 = .int .i64 (k : Int) ∧ s1 = .slice A' m c' ∧ v = s7 ∧ k ≤ q ∧ m ≤ c' ∧ c' ≤ 9223372036854775807 ∧ Hid (m = ls'.length ∧ ns.drop k = partsL g t ∧ g + ls'.length = t ∧ acc ++ rootsOf (partsL g t) ls' = rootsL f ls ∧ HL w w.heap.size A' ls' ∧ hashes ls' ∧ hashes acc ∧ OwnL w1 wr v acc.length acc)) (fun _ _ s8 _ => (q - intOf s8).toNat)
  case atStart => exact ⟨0, f, A, n, c, ls, [], _, rfl, rfl, rfl, by omega, hc, hcc, Lib.hid ⟨hn.out, by rw [hns.out]; rfl, by rw [← hn.out, htt.out], by rw [hroots.out, hns.out]; rfl, HA.out, HH.out, (fun _ h => nomatch h), OwnL.start _⟩⟩
  case round =>
    clear P1 e1
    obtain ⟨k, g, A', m, c', ls', acc, v, rfl, rfl, rfl, hk, hmc, hcc', HR⟩ := hrel
    by_cases hlt : k < q
    · obtain ⟨hm, hd, hg, hr, hl, hh, ha, ho⟩ := HR.out
      have hgt : g < t := by
        by_cases h : g < t
        · exact h
        · rw [partsL_done g t (by omega)] at hd
          have := congrArg List.length hd
          rw [List.length_drop, ← hq.out] at this
          simp at this; omega
      obtain ⟨p, hp⟩ : ∃ p, Hid (p = partN g (t - g)) := ⟨_, Lib.hid rfl⟩
      have hp1 : 1 ≤ p := by rw [hp.out]; exact partN_pos _ _ (by omega)
      have hp2 : p ≤ m := by rw [hp.out, hm]; have := partN_le g (t - g) (by omega); omega
      rw [partsL_more g t hgt, ← hp.out] at hd hr
      obtain ⟨hk1, hk2, hk3⟩ := drop_one hd
      obtain ⟨pa, rfl⟩ := HI.out.some k hk1
      obtain ⟨ad, rfl⟩ := hl.some 0 (by omega)
      have CC : Hid (∀ W, Below w1.heap.size w1 W → W.cell? (pa.add k) = some (.int .i64 (p : Int))) := Lib.hid fun W hW => by rw [← hk2]; exact (HI.out.next hW (Nat.le_refl _)).at k hk1
      obtain ⟨C, hC⟩ : ∃ C, Hid (C = nums .u8 (rootL (ls'.take p))) := ⟨_, Lib.hid rfl⟩
      have hbw : Below w.heap.size w wr := below_new HB.out ho.2
      have lt1 : (ls'.take p).length = p := by rw [List.length_take]; omega
      have X1 : Hid (∀ W, Below w1.heap.size w1 W → Calls Tryd.prog 49 #[.slice (some ad) p c'] W fun ev w' => ev = .returned (.agg C) ∧ Below W.heap.size W w') := Lib.hid (fun W hW => by
        have := refRoot_any (ls'.take p).length (ls'.take p) (some ad) c' W (Nat.le_refl _) (hashes_take hh p) (((hl.next (below_new HB.out hW) (Nat.le_refl _)).more (below_new HB.out hW).size).take p) (by rw [lt1]; omega) hcc'
        rwa [lt1, ← hC.out] at this)
      have hrl := rootL_is (ls'.take p) (hashes_take hh p)
      have hrl2 := Lib.hid hrl.1
      have zC : Hid (C.size = 32) := Lib.hid (by rw [hC.out, nums_size]; exact hrl.1)
      have zM : Hid (acc.length + 1 ≤ 8192) := Lib.hid (by
        have h1 := congrArg List.length hr
        rw [List.length_append, rootsL_length, ← hn.out, ← htt.out, ← hns.out, ← hq.out] at h1
        omega)
      obtain ⟨AX, eAX⟩ : ∃ X, (if c' = p then some ad else some (ad.add (p * 32))) = X := ⟨_, rfl⟩
      have HN : Hid (m - p = (ls'.drop p).length ∧ ns.drop (k + 1) = partsL (g + p) t ∧ (g + p) + (ls'.drop p).length = t ∧ (acc ++ [rootL (ls'.take p)]) ++ rootsOf (partsL (g + p) t) (ls'.drop p) = rootsL f ls ∧ HL w w.heap.size AX (ls'.drop p) ∧ hashes (ls'.drop p) ∧ hashes (acc ++ [rootL (ls'.take p)])) := Lib.hid
        ⟨by rw [List.length_drop]; omega, hk3, by rw [List.length_drop]; omega, by rw [← hr, List.append_assoc]; rfl, (by rw [← eAX]; exact hl.rest c' p (by omega)), hashes_drop hh p, hashes_snoc ha hrl⟩
      have HO := Lib.hid ho
      have b1 : (p : Int) ≤ (m : Int) := by omega
      have b2 : (p : Int) ≤ (c' : Int) := by omega
      have b5 : ((m : Int) - (p : Int)).toNat = m - p := by omega
      have b6 : ((c' : Int) - (p : Int)).toNat = c' - p := by omega
      have hw2 : IntKind.i64.wrap (k : Int) = (k : Int) := by rw [IntKind.wrap_i64]; omega
      have bq : (k : Int) < (q : Int) := by omega
      have HHR := Lib.hid hrl
      clear HR hm hd hg hr hl hh ha ho hk1 hk2 hk3 lt1 hrl hbw
      go_upto_region 8 with fail
      refine wp_region_fk (Below w1.heap.size w1) (.get 0 (.get 1 (.get 2 (.get 3 (.get 4 (.get 5 (.get 6 (.get 10 (.get 11 (.get 12 (.get 13 (.get 14 (.get 15 (.call 7 (.call 8 (.call 9 (.get 16 (.get 17 .done)))))))))))))))))) (by kernel_rfl) rfl (by kernel_rfl) (by kernel_rfl) (by intro c a d v w h; cases d <;> exact h) (HO.out.2.drew) (fun Q' hQ => ?_)
      have HS := Lib.hid (HO.out.2.drew)
      have HQ := Lib.hid hQ
      clear hQ
      refine wpFk_get rfl (by rfl) (fun K hK => ?_)
      refine ⟨?_, fun w' hS' => ?_, ?_⟩
      rotate_left
      · go_simp
        try (with_reducible rfl)
      try go_simp
      refine hK _ ?_
      clear hK K
      refine wpFk_get rfl (by rfl) (fun K hK => ?_)
      refine ⟨?_, fun w' hS' => ?_, ?_⟩
      rotate_left
      · go_simp
        try (with_reducible rfl)
      try go_simp
      refine hK _ ?_
      clear hK K
      refine wpFk_get rfl (by rfl) (fun K hK => ?_)
      refine ⟨?_, fun w' hS' => ?_, ?_⟩
      rotate_left
      · go_simp
        try (with_reducible rfl)
      try go_simp
      refine hK _ ?_
      clear hK K
      refine wpFk_get rfl (by rfl) (fun K hK => ?_)
      refine ⟨?_, fun w' hS' => ?_, ?_⟩
      rotate_left
      · go_simp
        try (with_reducible rfl)
      try go_simp
      refine hK _ ?_
      clear hK K
      refine wpFk_get rfl (by rfl) (fun K hK => ?_)
      refine ⟨?_, fun w' hS' => ?_, ?_⟩
      rotate_left
      · go_simp
        try (with_reducible rfl)
      try go_simp
      refine hK _ ?_
      clear hK K
      refine wpFk_get rfl (by rfl) (fun K hK => ?_)
      refine ⟨?_, fun w' hS' => ?_, ?_⟩
      rotate_left
      · have c9 : w'.cell? (pa.add k) = some (.int .i64 (p : Int)) := CC.out _ hS'
        go_simp
        try (with_reducible rfl)
      try go_simp
      refine hK _ ?_
      clear hK K
      refine wpFk_get rfl (by rfl) (fun K hK => ?_)
      refine ⟨?_, fun w' hS' => ?_, ?_⟩
      rotate_left
      · go_simp
        try (with_reducible rfl)
      try go_simp
      refine hK _ ?_
      clear hK K
      refine wpFk_get rfl (by rfl) (fun K hK => ?_)
      refine ⟨?_, fun w' hS' => ?_, ?_⟩
      rotate_left
      · go_simp
        try (with_reducible rfl)
      try go_simp
      refine hK _ ?_
      clear hK K
      refine wpFk_get rfl (by rfl) (fun K hK => ?_)
      refine ⟨?_, fun w' hS' => ?_, ?_⟩
      rotate_left
      · go_simp
        try (with_reducible rfl)
      try go_simp
      refine hK _ ?_
      clear hK K
      refine wpFk_get rfl (by rfl) (fun K hK => ?_)
      refine ⟨?_, fun w' hS' => ?_, ?_⟩
      rotate_left
      · go_simp
        try (with_reducible rfl)
      try go_simp
      refine hK _ ?_
      clear hK K
      refine wpFk_get rfl (by rfl) (fun K hK => ?_)
      refine ⟨?_, fun w' hS' => ?_, ?_⟩
      rotate_left
      · go_simp
        try (with_reducible rfl)
      try go_simp
      refine hK _ ?_
      clear hK K
      refine wpFk_get rfl (by rfl) (fun K hK => ?_)
      refine ⟨?_, fun w' hS' => ?_, ?_⟩
      rotate_left
      · have c9 : w'.cell? (pa.add k) = some (.int .i64 (p : Int)) := CC.out _ hS'
        go_simp
        try (with_reducible rfl)
      try go_simp
      refine hK _ ?_
      clear hK K
      refine wpFk_get rfl (by rfl) (fun K hK => ?_)
      refine ⟨?_, fun w' hS' => ?_, ?_⟩
      rotate_left
      · go_simp
        try (with_reducible rfl)
      try go_simp
      refine hK _ ?_
      clear hK K
      refine wpFk_call rfl (by rfl) (fun K hK => ?_)
      go_simp
      go_at_call 49
      refine (X1.out _ HS.out).mono ?_
      rintro e w5 ⟨rfl, hb⟩
      have HW5 : Hid (Below wr.heap.size wr w5) := Lib.hid ((Below.refl wr.heap.size wr).drew.trans hb)
      replace HS := Lib.hid (below_new HS.out hb)
      clear hb
      refine hK _ _ HS.out ?_
      clear hK K
      refine wpFk_call rfl (by rfl) (fun K hK => ?_)
      refine wp_buildOne (.tmp 41) rfl C rfl zC.out ?_
      have HR1 := Lib.hid (Row.made w5 31 C)
      replace HS := Lib.hid (HS.out.alloc HS.out.size (.cells C 31))
      have HB1 := Lib.hid (HW5.out.alloc HW5.out.size (.cells C 31))
      try go_simp
      refine hK _ _ HS.out ?_
      clear hK K
      refine wpFk_call rfl (by rfl) (fun K hK => ?_)
      refine wp_append_own _ (.tmp 34) (.tmp 42) 22 rfl w1.heap.size 31 i0 _ 32 32 Tryd.underlying22 hi hz0 hz1 hz2 (by simp [Value.cells, nums]) (by decide) _ _ _ rfl (own_below HO.out.1 HB1.out) ⟨w5.heap.size, 0, none⟩ 1 1 ((rootL (ls'.take p)).map (Value.int .u8)) rfl ?cc0 ?cc1 ?cc2 (by have := zM.out; unfold maxLen; omega) (by have := zM.out; omega) ?cc5 ?_
      case cc0 => rw [List.length_map, hrl2.out]
      case cc1 =>
        intro j u hj
        rw [add_flat, HR1.out.cell, hC.out]
        simpa [nums] using hj
      case cc2 =>
        intro u hu
        obtain ⟨z, _, rfl⟩ := List.mem_map.1 hu
        rfl
      case cc5 => exact Nat.le_trans HO.out.2.size HB1.out.size
      intro v' w7 hown hgrow _
      have HO2 : Hid (OwnL w1 w7 v' (acc.length + 1) (acc ++ [rootL (ls'.take p)])) := Lib.hid ⟨by rw [cellsL_snoc]; exact hown, (HO.out.2.trans (HB1.out.mono HO.out.2.size)).grown hgrow (Nat.le_trans HO.out.2.size HB1.out.size) (fun b e => (HO.out.1.lt b e).1)⟩
      replace HS := Lib.hid HO2.out.2
      clear hown hgrow
      try go_simp
      refine hK _ _ HS.out ?_
      clear hK K
      refine wpFk_get rfl (by rfl) (fun K hK => ?_)
      refine ⟨?_, fun w' hS' => ?_, ?_⟩
      rotate_left
      · go_simp
        try (with_reducible rfl)
      try go_simp
      refine hK _ ?_
      clear hK K
      refine wpFk_get rfl (by rfl) (fun K hK => ?_)
      refine ⟨?_, fun w' hS' => ?_, ?_⟩
      rotate_left
      · go_simp
        try (with_reducible rfl)
      try go_simp
      refine hK _ ?_
      clear hK K
      refine wpFk_done ?_
      refine HQ.out _ _ ?_
      go_wp2
      go_roundw
      case rel => exact ⟨k + 1, g + p, _, _, _, _, _, _, by go_num, rfl, rfl, by omega, by omega, by omega, Lib.hid ⟨HN.out.1, HN.out.2.1, HN.out.2.2.1, HN.out.2.2.2.1, HN.out.2.2.2.2.1, HN.out.2.2.2.2.2.1, HN.out.2.2.2.2.2.2, by rw [List.length_append]; exact HO2.out⟩⟩
      case measure => simp [intOf]; omega
    · obtain ⟨hm, hd, hg, hr, hl, hh, ha, ho⟩ := HR.out
      have e0 : partsL g t = [] := by rw [← hd, List.drop_of_length_le (by rw [← hq.out]; omega)]
      rw [e0] at hr
      have e1 : acc = rootsL f ls := by rw [← hr]; show acc = acc ++ []; simp
      obtain ⟨A9, c9, hv, hc9, hcm9, hI9⟩ : ∃ A c, Hid (v = .slice A (rootsL f ls).length c) ∧ Hid ((rootsL f ls).length ≤ c) ∧ Hid (c ≤ maxLen) ∧ Hid (HL wr wr.heap.size A (rootsL f ls)) := by
        rw [e1] at ho ha
        obtain ⟨A, c, e1, e2, e3, e4⟩ := ho.lead2 ha
        exact ⟨A, c, Lib.hid e1, Lib.hid e2, Lib.hid e3, Lib.hid e4⟩
      have HB9 := Lib.hid (below_new HB.out ho.2)
      clear HR hm hd hg hr hl hh ha ho e0 e1
      go_wp2
      go_ret2
      exact ⟨⟨A9, c9, by rw [hv.out]; rfl, hc9.out, hcm9.out, hI9.out⟩, HB9.out⟩
set_option maxHeartbeats 2000000 in
theorem refPart_any (w : World) (f : Int) (LA : Option Addr) (lc : Nat) (ls : List (List Int)) (hl : hashes ls) (hL : HL w w.heap.size LA ls) (hlc : ls.length ≤ lc) (hlm : lc ≤ maxLen) (hsm : ls.length ≤ 100000) :
    Calls Tryd.prog 23 #[.int .i64 f, .slice LA ls.length lc] w (GivesL w (partF f ls)) := by
  obtain ⟨m, hm⟩ : ∃ m, Hid (m = ls.length) := ⟨_, Lib.hid rfl⟩
  have hmm : m ≤ 100000 := by rw [hm.out]; exact hsm
  clear hsm
  by_cases h1 : f < 0
  · rw [← hm.out]
    have HF : Hid (partF f ls = ([], 2)) := Lib.hid (partF_no (.inl h1))
    have d1 : decide (f < 0) = true := decide_eq_true h1
    clear hl hL hlc hlm
    go_enter Tryd.func23, Tryd.ntmps23
    go_wp2
    go_ret2
    unfold GivesL
    rw [HF.out]
    exact ⟨none, 0, rfl, Nat.le_refl _, by decide, HL.nil _ _ _, Below.refl _ _⟩
  · have d1 : decide (f < 0) = false := decide_eq_false h1
    by_cases h2 : 4096 < f
    · rw [← hm.out]
      have HF : Hid (partF f ls = ([], 2)) := Lib.hid (partF_no (.inr (by omega)))
      have d2 : decide (4096 < f) = true := decide_eq_true h2
      clear hl hL hlc hlm
      go_enter Tryd.func23, Tryd.ntmps23
      go_wp2
      go_ret2
      unfold GivesL
      rw [HF.out]
      exact ⟨none, 0, rfl, Nat.le_refl _, by decide, HL.nil _ _ _, Below.refl _ _⟩
    · have d2 : decide (4096 < f) = false := decide_eq_false h2
      by_cases h3 : 4096 < f + (m : Int)
      · rw [← hm.out]
        have HF : Hid (partF f ls = ([], 2)) := Lib.hid (partF_no (.inr (by rw [← hm.out]; omega)))
        have d3 : decide (4096 < f + (m : Int)) = true := decide_eq_true h3
        have hw1 : IntKind.i64.wrap (f + (m : Int)) = f + (m : Int) := by rw [IntKind.wrap_i64]; omega
        clear hl hL hlc hlm
        go_enter Tryd.func23, Tryd.ntmps23
        go_wp2
        go_ret2
        unfold GivesL
        rw [HF.out]
        exact ⟨none, 0, rfl, Nat.le_refl _, by decide, HL.nil _ _ _, Below.refl _ _⟩
      · obtain ⟨F, rfl⟩ : ∃ F : Nat, f = F := ⟨f.toNat, by omega⟩
        have HF : partF (F : Int) ls = (rootsL F ls, 0) := partF_ok (by rw [← hm.out]; omega)
        refine (refPart_some w F ls hl LA lc hL hlc hlm (by rw [← hm.out]; omega)).mono ?_
        rintro e w' ⟨⟨A', c', rfl, h4, h5, h6⟩, hb⟩
        unfold GivesL
        rw [HF]
        exact ⟨A', c', rfl, h4, h5, h6, hb⟩
end Go.Proofs.YtfakimbneenfdaaDoor
namespace Go.Proofs.YtfakimbneenfdaaDoor
open Go.RowKit Go.Great
set_option linter.unusedVariables false
set_option maxRecDepth 100000

/-- A number's last twelve bits. -/
theorem and4095 (x : Int) : bits .and .i64 x 4095 = x % 4096 := by
  have oa : (BitVec.ofInt 64 x).toNat = (x % 18446744073709551616).toNat := by rw [BitVec.toNat_ofInt]; rfl
  have ob : (BitVec.ofInt 64 (4095 : Int)).toNat = 4095 := by decide
  show IntKind.i64.wrap ((BitVec.ofInt 64 x &&& BitVec.ofInt 64 4095).toNat : Int) = _
  rw [BitVec.toNat_and, oa, ob, show (4095 : Nat) = 2 ^ 12 - 1 by decide, Nat.and_two_pow_sub_one_eq_mod, IntKind.wrap_i64]
  omega
theorem carry_len (m : Nat) : ∀ (hs : List (List Int)) (x : List Int), (carry m hs x).length ≤ hs.length + 1 := by
  induction m using Nat.strongRecOn with
  | ind m ih =>
    intro hs x
    by_cases hm : m % 2 = 1
    · rw [carry_odd m hs x hm]; have := ih (m / 2) (by omega) hs.dropLast (nodeL (hs.getLastD []) x); rw [List.length_dropLast] at this; omega
    · rw [carry_even m hs x (by omega), List.length_append]; exact Nat.le_refl _
theorem adds_len (ls : List (List Int)) : ∀ s hs, (adds s hs ls).length ≤ hs.length + ls.length := by
  induction ls with
  | nil => intro s hs; exact Nat.le_refl _
  | cons x xs ih =>
    intro s hs
    have h1 := ih (s + 1) (carry s hs x)
    have h2 := carry_len s hs x
    show (adds (s + 1) (carry s hs x) xs).length ≤ _
    rw [List.length_cons]; omega
theorem pushes_len (ns : List Nat) : ∀ (xs : List (List Int)) (s : Nat) (hs : List (List Int)), (pushes ns xs s hs).length ≤ hs.length + xs.length := by
  induction ns with
  | nil => intro xs s hs; rw [pushes_nil]; omega
  | cons n ns ih =>
    intro xs s hs
    cases xs with
    | nil => exact Nat.le_refl _
    | cons x xs =>
      have h1 := ih xs (s + n) (carry (s / n) hs x)
      have h2 := carry_len (s / n) hs x
      show (pushes ns xs (s + n) (carry (s / n) hs x)).length ≤ _
      rw [List.length_cons]; omega
theorem extF_len (s : Int) (hs ls : List (List Int)) (h : hs.length + ls.length ≤ 9223372036854775807) : (extF s hs ls).2.1.length ≤ 9223372036854775807 := by
  unfold extF
  split
  · simp
  · split
    · simp
    · have := adds_len ls s.toNat hs; show (adds s.toNat hs ls).length ≤ _; omega
/-- A range and leaves. -/
structure PrH (w : World) (s : Int) (A : Option Addr) (n c : Nat) (hs : List (List Int)) (LA : Option Addr) (ls : List (List Int)) (W : World) : Prop where
  r : Row W w.heap.size 24 #[.int .i64 s, .slice A n c]
  hr : HW W A hs
  hl : HW W LA ls
  tab : Tab W
  below : Below w.heap.size w W
theorem PrH.next {w W W1 : World} {s : Int} {A : Option Addr} {n c : Nat} {hs : List (List Int)} {LA : Option Addr} {ls : List (List Int)} (h : PrH w s A n c hs LA ls W) (hb : Below W.heap.size W W1) : PrH w s A n c hs LA ls W1 :=
  ⟨h.r.next hb, h.hr.next hb, h.hl.next hb, h.tab.next hb, below_new h.below hb⟩
theorem greatR_any (s : Int) (A : Option Addr) (n c : Nat) (w : World) :
    Calls Tryd.prog 11 #[.agg #[.int .i64 s, .slice A n c]] w fun e w' => e = .returned (.bool (decide (100 < n))) ∧ Below w.heap.size w w' := by
  by_cases h : 100 < n
  · have d1 : decide (100 < (n : Int)) = true := decide_eq_true (by omega)
    have d2 : (100 : Int) < (n : Int) := by omega
    rw [decide_eq_true h]
    go_enter Tryd.func11, Tryd.ntmps11
    go_upto_region 1 with fail
    refine world_gen (fun wx => Row wx w.heap.size 24 #[.int .i64 s, .slice A n c] ∧ Below w.heap.size w wx) ⟨Row.made _ _ _, (Below.refl _ _).alloc (Nat.le_refl _) _⟩ (fun wx HX => ?_)
    have HX := Lib.hid HX
    have c0 := HX.out.1.cell 0
    have c1 := HX.out.1.cell 1
    go_wp2
    go_ret
    exact ⟨rfl, HX.out.2⟩
  · have d1 : decide (100 < (n : Int)) = false := decide_eq_false (by omega)
    have d2 : ¬ (100 : Int) < (n : Int) := by omega
    rw [decide_eq_false h]
    go_enter Tryd.func11, Tryd.ntmps11
    go_upto_region 1 with fail
    refine world_gen (fun wx => Row wx w.heap.size 24 #[.int .i64 s, .slice A n c] ∧ Below w.heap.size w wx) ⟨Row.made _ _ _, (Below.refl _ _).alloc (Nat.le_refl _) _⟩ (fun wx HX => ?_)
    have HX := Lib.hid HX
    have c0 := HX.out.1.cell 0
    have c1 := HX.out.1.cell 1
    go_wp2
    go_ret
    exact ⟨rfl, HX.out.2⟩
end Go.Proofs.YtfakimbneenfdaaDoor
namespace Go.Proofs.YtfakimbneenfdaaDoor
open Go.RowKit Go.Great
set_option linter.unusedVariables false
set_option maxRecDepth 100000

attribute [local go_sem ↓ high] read_at write_at eq_at neq_at
set_option maxHeartbeats 80000000 in
theorem partlaw_any (fr : Int) (hfr : -9223372036854775808 ≤ fr ∧ fr ≤ 9223372036854775807) (LA : Option Addr) (lc : Nat) (ls : List (List Int)) (hl : hashes ls) (s : Int) (hs64 : -9223372036854775808 ≤ s ∧ s ≤ 9223372036854775807) (A : Option Addr) (c : Nat) (hs : List (List Int)) (hh : hashes hs)
    (w : World) (hT : Tab w) (hL : HL w w.heap.size LA ls) (hA : HL w w.heap.size A hs) (hlc : ls.length ≤ lc) (hlm : lc ≤ maxLen) :
    Calls Tryd.prog 4 #[.int .i64 fr, .slice LA ls.length lc, .agg #[.int .i64 s, .slice A hs.length c]] w fun e w' => e = .returned (.bool true) ∧ Below w.heap.size w w' := by
  obtain ⟨n, hn⟩ : ∃ n, Hid (n = hs.length) := ⟨_, Lib.hid rfl⟩
  obtain ⟨m, hm⟩ : ∃ m, Hid (m = ls.length) := ⟨_, Lib.hid rfl⟩
  have hlm2 : lc ≤ 9223372036854775807 := by unfold maxLen at hlm; omega
  have hmc : m ≤ lc := by rw [hm.out]; exact hlc
  have G1 : Hid (∀ W, Calls Tryd.prog 11 #[.agg #[.int .i64 s, .slice A n c]] W fun e w' => e = .returned (.bool (decide (100 < n))) ∧ Below W.heap.size W w') := Lib.hid fun W => greatR_any s A n c W
  have HW0 : Hid (PrH w s A n c hs LA ls (w.alloc (.cells #[.int .i64 s, .slice A n c] 24))) := Lib.hid (by
    have hb : Below w.heap.size w (w.alloc (.cells #[.int .i64 s, .slice A n c] 24)) := (Below.refl _ _).alloc (Nat.le_refl _) _
    exact ⟨Row.made _ _ _, HW.next hA hb, HW.next hL hb, hT.next hb, hb⟩)
  have HH := Lib.hid hh
  have HHl := Lib.hid hl
  have HLC := Lib.hid (And.intro hlc hlm)
  have HSB := Lib.hid hs64
  rw [← hn.out, ← hm.out]
  clear hT hL hA hlc hlm hh hl
  by_cases h100 : 100 < n
  · have g1 : decide (100 < n) = true := decide_eq_true h100
    rw [g1] at G1
    go_enter Tryd.func4, Tryd.ntmps4
    go_upto_region 1 with fail
    refine world_gen (fun W => PrH w s A n c hs LA ls W) HW0.out (fun wx HX => ?_)
    have HX := Lib.hid HX
    have c0 := HX.out.r.cell 0
    have c1 := HX.out.r.cell 1
    go_wp2_with (first
      | (go_at_call 11; (with_reducible refine (G1.out _).mono ?_); rintro e w1 ⟨rfl, hb⟩; have H1 := Lib.hid (HX.out.next hb); clear hb c0 c1)
      | (go_at_call 12; (with_reducible refine (ranged_any _ H1.out.tab).mono ?_); rintro e w2 ⟨rfl, hb⟩; have HB2 := Lib.hid (below_new H1.out.below hb); clear hb))
    go_ret
    exact ⟨rfl, HB2.out⟩
  have g1 : decide (100 < n) = false := decide_eq_false h100
  rw [g1] at G1
  by_cases hm100 : 100 < m
  · have d1 : decide (100 < (m : Int)) = true := decide_eq_true (by omega)
    have d2 : (100 : Int) < (m : Int) := by omega
    go_enter Tryd.func4, Tryd.ntmps4
    go_upto_region 1 with fail
    refine world_gen (fun W => PrH w s A n c hs LA ls W) HW0.out (fun wx HX => ?_)
    have HX := Lib.hid HX
    have c0 := HX.out.r.cell 0
    have c1 := HX.out.r.cell 1
    go_wp2_with (first
      | (go_at_call 11; (with_reducible refine (G1.out _).mono ?_); rintro e w1 ⟨rfl, hb⟩; have H1 := Lib.hid (HX.out.next hb); clear hb c0 c1)
      | (go_at_call 12; (with_reducible refine (ranged_any _ H1.out.tab).mono ?_); rintro e w2 ⟨rfl, hb⟩; have HB2 := Lib.hid (below_new H1.out.below hb); clear hb))
    go_ret
    exact ⟨rfl, HB2.out⟩
  have d1 : decide (100 < (m : Int)) = false := decide_eq_false (by omega)
  have d2 : ¬ (100 : Int) < (m : Int) := by omega
  have d3 : (m : Int) ≤ 100 := by omega
  have hn100 : n ≤ 100 := by omega
  have hl100 : Hid (ls.length ≤ 100) := Lib.hid (by rw [← hm.out]; omega)
  have hh100 : Hid (hs.length ≤ 100) := Lib.hid (by rw [← hn.out]; omega)
  -- the parts behind any others
  have PJ : Hid (∀ j : Int, (-9223372036854775808 ≤ j ∧ j ≤ 9223372036854775807) → ∃ (P : List (List Int)) (q : Nat) (E : Int), q ≤ 9223372036854775807 ∧ (∀ W, PrH w s A n c hs LA ls W → Calls Tryd.prog 22 #[.int .i64 j, .slice LA m lc] W fun e w' => ∃ A' c', e = .returned (.tuple #[.slice A' q c', .int .i64 E]) ∧ HW w' A' P ∧ Below W.heap.size W w') ∧
      (∀ W, PrH w s A n c hs LA ls W → Calls Tryd.prog 23 #[.int .i64 j, .slice LA m lc] W fun e w' => ∃ A' c', e = .returned (.tuple #[.slice A' q c', .int .i64 E]) ∧ HW w' A' P ∧ Below W.heap.size W w') ∧
      (∀ W B D b d, HW W B P → HW W D P → Calls Tryd.prog 24 #[.slice B q b, .slice D q d] W fun e w' => e = .returned (.bool true) ∧ Below W.heap.size W w')) := Lib.hid fun j hj => by
    have hP := partF_hashes (f := j) HHl.out
    have hq : (partF j ls).1.length ≤ 9223372036854775807 := by
      unfold partF
      split
      · simp
      · rw [rootsL_length]; have := partsL_length j.toNat (j.toNat + ls.length); have := hl100.out; omega
    refine ⟨(partF j ls).1, (partF j ls).1.length, (partF j ls).2, hq, fun W hW => ?_, fun W hW => ?_, fun W B D b d h1 h2 => ?_⟩
    · have := part_any W hW.tab j hj LA lc ls HHl.out hW.hl HLC.out.1 HLC.out.2
      rw [← hm.out] at this
      refine this.mono ?_
      rintro e w' ⟨A', c', he, _, _, h3, h4⟩
      exact ⟨A', c', he, h3, h4⟩
    · have := refPart_any W j LA lc ls HHl.out hW.hl HLC.out.1 HLC.out.2 (by have := hl100.out; omega)
      rw [← hm.out] at this
      refine this.mono ?_
      rintro e w' ⟨A', c', he, _, _, h3, h4⟩
      exact ⟨A', c', he, h3, h4⟩
    · refine (lsame_any (partF j ls).1 (partF j ls).1 hP hP hq hq B D b d W h1 h2).mono ?_
      rintro e w' ⟨he, k, rfl⟩
      exact ⟨by rw [he, decide_eq_true rfl], below_drewN (Below.refl _ _) k⟩
  -- their range
  obtain ⟨z1, hz1⟩ : ∃ z, Hid (z = (extF 0 [] ls).1) := ⟨_, Lib.hid rfl⟩
  obtain ⟨H1s, hH1⟩ : ∃ z, Hid (z = (extF 0 [] ls).2.1) := ⟨_, Lib.hid rfl⟩
  obtain ⟨er1, her1⟩ : ∃ z, Hid (z = (extF 0 [] ls).2.2) := ⟨_, Lib.hid rfl⟩
  obtain ⟨q1, hq1⟩ : ∃ q, Hid (q = H1s.length) := ⟨_, Lib.hid rfl⟩
  have hH1h : Hid (hashes H1s) := Lib.hid (by rw [hH1.out]; exact extF_hashes (fun _ h => nomatch h) HHl.out)
  have hlen1 : Hid (H1s.length ≤ 9223372036854775807) := Lib.hid (by
    rw [hH1.out]; exact extF_len _ _ _ (by rw [List.length_nil]; have := hl100.out; omega))
  have OA : Hid (∀ W, PrH w s A n c hs LA ls W → Calls Tryd.prog 25 #[.slice LA m lc] W fun e w' => ∃ A' c', e = .returned (.tuple #[.agg #[.int .i64 z1, .slice A' q1 c'], .int .i64 er1]) ∧ HW w' A' H1s ∧ Below W.heap.size W w') := Lib.hid fun W hW => by
    have := of_any W hW.tab LA lc ls HHl.out hW.hl HLC.out.1 HLC.out.2
    rw [← hm.out] at this
    refine this.mono ?_
    rintro e w' ⟨A', c', he, ho⟩
    rw [← hz1.out, ← hH1.out, ← her1.out, ← hq1.out] at he
    rw [← hH1.out, ← hq1.out] at ho
    exact ⟨A', c', he, own_HW ho hq1.out hH1h.out, ho.2⟩
  have OB : Hid (∀ W, PrH w s A n c hs LA ls W → Calls Tryd.prog 26 #[.slice LA m lc] W fun e w' => ∃ A' c', e = .returned (.tuple #[.agg #[.int .i64 z1, .slice A' q1 c'], .int .i64 er1]) ∧ HW w' A' H1s ∧ Below W.heap.size W w') := Lib.hid fun W hW => by
    have := refOf_any W LA lc ls HHl.out hW.hl HLC.out.1 HLC.out.2 (by have := hl100.out; omega)
    rw [← hm.out] at this
    refine this.mono ?_
    rintro e w' ⟨A', c', he, ho⟩
    rw [← hz1.out, ← hH1.out, ← her1.out, ← hq1.out] at he
    rw [← hH1.out, ← hq1.out] at ho
    exact ⟨A', c', he, own_HW ho hq1.out hH1h.out, ho.2⟩
  obtain ⟨B1, hB1⟩ : ∃ B, Hid (B = sameB z1 H1s s hs) := ⟨_, Lib.hid rfl⟩
  have eB : (B1 != B1) = false := by simp
  have S1 : Hid (∀ W A1 A2 c1 c2, HW W A1 H1s → HW W A2 H1s → Calls Tryd.prog 17 #[.agg #[.int .i64 z1, .slice A1 q1 c1], .agg #[.int .i64 z1, .slice A2 q1 c2]] W fun e w' => e = .returned (.bool true) ∧ Below W.heap.size W w') := Lib.hid fun W A1 A2 c1 c2 h1 h2 => by
    have := refSame_any W z1 z1 A1 A2 c1 c2 H1s H1s hH1h.out hH1h.out hlen1.out hlen1.out h1 h2
    rw [← hq1.out, show sameB z1 H1s z1 H1s = true from decide_eq_true ⟨rfl, rfl⟩] at this
    exact this
  have S2 : Hid (∀ W A1 c1, HW W A1 H1s → HW W A hs → Calls Tryd.prog 27 #[.agg #[.int .i64 z1, .slice A1 q1 c1], .agg #[.int .i64 s, .slice A n c]] W fun e w' => e = .returned (.bool B1) ∧ Below W.heap.size W w') := Lib.hid fun W A1 c1 h1 h2 => by
    have := rsame_any W z1 s A1 A c1 c H1s hs hH1h.out HH.out hlen1.out (by have := hh100.out; omega) h1 h2
    rwa [← hq1.out, ← hn.out, ← hB1.out] at this
  have S3 : Hid (∀ W A1 c1, HW W A1 H1s → HW W A hs → Calls Tryd.prog 17 #[.agg #[.int .i64 z1, .slice A1 q1 c1], .agg #[.int .i64 s, .slice A n c]] W fun e w' => e = .returned (.bool B1) ∧ Below W.heap.size W w') := Lib.hid fun W A1 c1 h1 h2 => by
    have := refSame_any W z1 s A1 A c1 c H1s hs hH1h.out HH.out hlen1.out (by have := hh100.out; omega) h1 h2
    rwa [← hq1.out, ← hn.out, ← hB1.out] at this
  have S4 : Hid (∀ W, HW W A hs → Calls Tryd.prog 27 #[.agg #[.int .i64 s, .slice A n c], .agg #[.int .i64 s, .slice A n c]] W fun e w' => e = .returned (.bool true) ∧ Below W.heap.size W w') := Lib.hid fun W h1 => by
    have := rsame_any W s s A A c c hs hs HH.out HH.out (by have := hh100.out; omega) (by have := hh100.out; omega) h1 h1
    rw [← hn.out, show sameB s hs s hs = true from decide_eq_true ⟨rfl, rfl⟩] at this
    exact this
  have ef : bits .and .i64 fr 4095 = fr % 4096 := and4095 fr
  go_enter Tryd.func4, Tryd.ntmps4
  go_upto_region 1 with fail
  refine world_gen (fun W => PrH w s A n c hs LA ls W) HW0.out (fun wx HX => ?_)
  have HX := Lib.hid HX
  have c0 := HX.out.r.cell 0
  have c1 := HX.out.r.cell 1
  go_wp2_with (go_at_call 11; (with_reducible refine (G1.out _).mono ?_); rintro e w1 ⟨rfl, hb⟩; have H1 := Lib.hid (HX.out.next hb); clear hb c0 c1)
  clear HX HW0 G1
  go_loopw [7] (fun s7 wr => ∃ k : Nat, s7 = .int .i64 (k : Int) ∧ k ≤ 2 ∧ Hid (PrH w s A n c hs LA ls wr)) (fun s7 _ => (2 - intOf s7).toNat)
  case atStart => exact ⟨0, rfl, by omega, H1⟩
  case round =>
    clear H1
    obtain ⟨k, rfl, hk2, HB⟩ := hrel
    by_cases hlt : k < 2
    · have d5 : (k : Int) < 2 := by omega
      by_cases he : k = 1
      · subst he
        obtain ⟨P, q, E, hq, PA, PB, PS⟩ := PJ.out (fr % 4096) (by omega)
        have PA := Lib.hid PA
        have PB := Lib.hid PB
        have PS := Lib.hid PS
        go_wp2_with (first
          | (go_at_call 22; (with_reducible refine (PA.out _ HB.out).mono ?_); rintro e w2 ⟨A1, c1, rfl, ha, hb⟩; have H2 := Lib.hid (HB.out.next hb); have HA2 := Lib.hid ha; clear ha hb)
          | (go_at_call 23; (with_reducible refine (PB.out _ H2.out).mono ?_); rintro e w3 ⟨A2, c2, rfl, ha, hb⟩; have H3 := Lib.hid (H2.out.next hb); have HA3 := Lib.hid (HA2.out.next hb); have HD3 := Lib.hid ha; clear ha hb)
          | (go_at_call 24; (with_reducible refine (PS.out _ _ _ _ _ HA3.out HD3.out).mono ?_); rintro e w4 ⟨rfl, hb⟩; have H4 := Lib.hid (H3.out.next hb); clear hb))
        go_roundw
        case rel => exact ⟨2, by first | rfl | go_num, by omega, H4⟩
        case measure => simp [intOf]
      · have k0 : k = 0 := by omega
        subst k0
        obtain ⟨P, q, E, hq, PA, PB, PS⟩ := PJ.out fr hfr
        have PA := Lib.hid PA
        have PB := Lib.hid PB
        have PS := Lib.hid PS
        clear he
        go_wp2_with (first
          | (go_at_call 22; (with_reducible refine (PA.out _ HB.out).mono ?_); rintro e w2 ⟨A1, c1, rfl, ha, hb⟩; have H2 := Lib.hid (HB.out.next hb); have HA2 := Lib.hid ha; clear ha hb)
          | (go_at_call 23; (with_reducible refine (PB.out _ H2.out).mono ?_); rintro e w3 ⟨A2, c2, rfl, ha, hb⟩; have H3 := Lib.hid (H2.out.next hb); have HA3 := Lib.hid (HA2.out.next hb); have HD3 := Lib.hid ha; clear ha hb)
          | (go_at_call 24; (with_reducible refine (PS.out _ _ _ _ _ HA3.out HD3.out).mono ?_); rintro e w4 ⟨rfl, hb⟩; have H4 := Lib.hid (H3.out.next hb); clear hb))
        go_roundw
        case rel => exact ⟨1, by first | rfl | go_num, by omega, H4⟩
        case measure => simp [intOf]
    · clear PJ
      go_upto_region 14 with (go_at_call 25; (with_reducible refine (OA.out _ HB.out).mono ?_); rintro e w5 ⟨A1, c1, rfl, ha, hb⟩; have H5 := Lib.hid (HB.out.next hb); have HA5 := Lib.hid ha; clear ha hb)
      have HP := Lib.hid (range_put w5 z1 A1 q1 c1)
      refine world_gen (fun W => PrH w s A n c hs LA ls W ∧ RgW W w5.heap.size z1 A1 q1 c1 H1s) ⟨H5.out.next HP.out.2, HP.out.1, HA5.out.next HP.out.2⟩ (fun w6 H6 => ?_)
      have H6a := Lib.hid H6.1
      have H6b := Lib.hid H6.2
      clear HP HA5 H5 H6 HB
      go_upto_region 15 with (go_at_call 26; (with_reducible refine (OB.out _ H6a.out).mono ?_); rintro e w7 ⟨A2, c2, rfl, ha, hb⟩; have H7a := Lib.hid (H6a.out.next hb); have H7b := Lib.hid (H6b.out.next hb); have HA7 := Lib.hid ha; clear ha hb)
      have HP := Lib.hid (range_put w7 z1 A2 q1 c2)
      refine world_gen (fun W => PrH w s A n c hs LA ls W ∧ RgW W w5.heap.size z1 A1 q1 c1 H1s ∧ RgW W w7.heap.size z1 A2 q1 c2 H1s) ⟨H7a.out.next HP.out.2, H7b.out.next HP.out.2, HP.out.1, HA7.out.next HP.out.2⟩ (fun w8 H8 => ?_)
      have HOt := Lib.hid H8.1
      have HRa := Lib.hid H8.2.1
      have HRb := Lib.hid H8.2.2
      clear HP HA7 H7a H7b H6a H6b H8
      refine wp_region_fk (Below w8.heap.size w8) (.get 0 (.get 1 (.call 2 (.get 3 (.get 4 (.get 5 (.get 6 (.get 7 (.get 8 (.get 9 (.get 10 (.get 11 (.get 13 (.get 14 (.call 12 (.call 15 (.get 16 (.get 17 (.get 18 (.get 19 (.get 20 (.call 21 (.get 22 (.get 23 .done)))))))))))))))))))))))) (by kernel_rfl) rfl (by kernel_rfl) (by kernel_rfl) (by intro c a d v w h; cases d <;> exact h) (Below.refl w8.heap.size w8).drew (fun Q' hQ => ?_)
      have HS := Lib.hid (Below.refl w8.heap.size w8).drew
      have HQ := Lib.hid hQ
      clear hQ
      refine wpFk_get rfl (by rfl) (fun K hK => ?_)
      refine ⟨?_, fun w' hS' => ?_, ?_⟩
      rotate_left
      · have c0 := (HRa.out.next hS').1.cell 0
        have c1 := (HRa.out.next hS').1.cell 1
        go_simp
        try (with_reducible rfl)
      try go_simp
      refine hK _ ?_
      clear hK K
      refine wpFk_get rfl (by rfl) (fun K hK => ?_)
      refine ⟨?_, fun w' hS' => ?_, ?_⟩
      rotate_left
      · have c0 := (HRb.out.next hS').1.cell 0
        have c1 := (HRb.out.next hS').1.cell 1
        go_simp
        try (with_reducible rfl)
      try go_simp
      refine hK _ ?_
      clear hK K
      refine wpFk_call rfl (by rfl) (fun K hK => ?_)
      go_simp
      go_at_call 17
      refine (S1.out _ _ _ _ _ (HRa.out.next HS.out).2 (HRb.out.next HS.out).2).mono ?_
      rintro e w2x ⟨rfl, hb⟩
      replace HS := Lib.hid (below_new HS.out hb)
      clear hb
      refine hK _ _ HS.out ?_
      clear hK K
      refine wpFk_get rfl (by rfl) (fun K hK => ?_)
      refine ⟨?_, fun w' hS' => ?_, ?_⟩
      rotate_left
      · go_simp
        try (with_reducible rfl)
      try go_simp
      refine hK _ ?_
      clear hK K
      refine wpFk_get rfl (by rfl) (fun K hK => ?_)
      refine ⟨?_, fun w' hS' => ?_, ?_⟩
      rotate_left
      · go_simp
        try (with_reducible rfl)
      try go_simp
      refine hK _ ?_
      clear hK K
      refine wpFk_get rfl (by rfl) (fun K hK => ?_)
      refine ⟨?_, fun w' hS' => ?_, ?_⟩
      rotate_left
      · go_simp
        try (with_reducible rfl)
      try go_simp
      refine hK _ ?_
      clear hK K
      refine wpFk_get rfl (by rfl) (fun K hK => ?_)
      refine ⟨?_, fun w' hS' => ?_, ?_⟩
      rotate_left
      · go_simp
        try (with_reducible rfl)
      try go_simp
      refine hK _ ?_
      clear hK K
      refine wpFk_get rfl (by rfl) (fun K hK => ?_)
      refine ⟨?_, fun w' hS' => ?_, ?_⟩
      rotate_left
      · go_simp
        try (with_reducible rfl)
      try go_simp
      refine hK _ ?_
      clear hK K
      refine wpFk_get rfl (by rfl) (fun K hK => ?_)
      refine ⟨?_, fun w' hS' => ?_, ?_⟩
      rotate_left
      · go_simp
        try (with_reducible rfl)
      try go_simp
      refine hK _ ?_
      clear hK K
      refine wpFk_get rfl (by rfl) (fun K hK => ?_)
      refine ⟨?_, fun w' hS' => ?_, ?_⟩
      rotate_left
      · go_simp
        try (with_reducible rfl)
      try go_simp
      refine hK _ ?_
      clear hK K
      refine wpFk_get rfl (by rfl) (fun K hK => ?_)
      refine ⟨?_, fun w' hS' => ?_, ?_⟩
      rotate_left
      · have c0 := (HRa.out.next hS').1.cell 0
        have c1 := (HRa.out.next hS').1.cell 1
        go_simp
        try (with_reducible rfl)
      try go_simp
      refine hK _ ?_
      clear hK K
      refine wpFk_get rfl (by rfl) (fun K hK => ?_)
      refine ⟨?_, fun w' hS' => ?_, ?_⟩
      rotate_left
      · have c0 := (HOt.out.next hS').r.cell 0
        have c1 := (HOt.out.next hS').r.cell 1
        go_simp
        try (with_reducible rfl)
      try go_simp
      refine hK _ ?_
      clear hK K
      refine wpFk_get rfl (by rfl) (fun K hK => ?_)
      refine ⟨?_, fun w' hS' => ?_, ?_⟩
      rotate_left
      · have c0 := (HRb.out.next hS').1.cell 0
        have c1 := (HRb.out.next hS').1.cell 1
        go_simp
        try (with_reducible rfl)
      try go_simp
      refine hK _ ?_
      clear hK K
      refine wpFk_get rfl (by rfl) (fun K hK => ?_)
      refine ⟨?_, fun w' hS' => ?_, ?_⟩
      rotate_left
      · have c0 := (HOt.out.next hS').r.cell 0
        have c1 := (HOt.out.next hS').r.cell 1
        go_simp
        try (with_reducible rfl)
      try go_simp
      refine hK _ ?_
      clear hK K
      refine wpFk_call rfl (by rfl) (fun K hK => ?_)
      go_simp
      go_at_call 27
      refine (S2.out _ _ _ (HRa.out.next HS.out).2 (HOt.out.next HS.out).hr).mono ?_
      rintro e w2x ⟨rfl, hb⟩
      replace HS := Lib.hid (below_new HS.out hb)
      clear hb
      refine hK _ _ HS.out ?_
      clear hK K
      refine wpFk_call rfl (by rfl) (fun K hK => ?_)
      go_simp
      go_at_call 17
      refine (S3.out _ _ _ (HRb.out.next HS.out).2 (HOt.out.next HS.out).hr).mono ?_
      rintro e w2x ⟨rfl, hb⟩
      replace HS := Lib.hid (below_new HS.out hb)
      clear hb
      refine hK _ _ HS.out ?_
      clear hK K
      refine wpFk_get rfl (by rfl) (fun K hK => ?_)
      refine ⟨?_, fun w' hS' => ?_, ?_⟩
      rotate_left
      · go_simp
        try (with_reducible rfl)
      try go_simp
      refine hK _ ?_
      clear hK K
      refine wpFk_get rfl (by rfl) (fun K hK => ?_)
      refine ⟨?_, fun w' hS' => ?_, ?_⟩
      rotate_left
      · go_simp
        try (with_reducible rfl)
      try go_simp
      refine hK _ ?_
      clear hK K
      refine wpFk_get rfl (by rfl) (fun K hK => ?_)
      refine ⟨?_, fun w' hS' => ?_, ?_⟩
      rotate_left
      · go_simp
        try (with_reducible rfl)
      try go_simp
      refine hK _ ?_
      clear hK K
      refine wpFk_get rfl (by rfl) (fun K hK => ?_)
      refine ⟨?_, fun w' hS' => ?_, ?_⟩
      rotate_left
      · have c0 := (HOt.out.next hS').r.cell 0
        have c1 := (HOt.out.next hS').r.cell 1
        go_simp
        try (with_reducible rfl)
      try go_simp
      refine hK _ ?_
      clear hK K
      refine wpFk_get rfl (by rfl) (fun K hK => ?_)
      refine ⟨?_, fun w' hS' => ?_, ?_⟩
      rotate_left
      · have c0 := (HOt.out.next hS').r.cell 0
        have c1 := (HOt.out.next hS').r.cell 1
        go_simp
        try (with_reducible rfl)
      try go_simp
      refine hK _ ?_
      clear hK K
      refine wpFk_call rfl (by rfl) (fun K hK => ?_)
      go_simp
      go_at_call 27
      refine (S4.out _ (HOt.out.next HS.out).hr).mono ?_
      rintro e w2x ⟨rfl, hb⟩
      replace HS := Lib.hid (below_new HS.out hb)
      clear hb
      refine hK _ _ HS.out ?_
      clear hK K
      refine wpFk_get rfl (by rfl) (fun K hK => ?_)
      refine ⟨?_, fun w' hS' => ?_, ?_⟩
      rotate_left
      · go_simp
        try (with_reducible rfl)
      try go_simp
      refine hK _ ?_
      clear hK K
      refine wpFk_get rfl (by rfl) (fun K hK => ?_)
      refine ⟨?_, fun w' hS' => ?_, ?_⟩
      rotate_left
      · go_simp
        try (with_reducible rfl)
      try go_simp
      refine hK _ ?_
      clear hK K
      refine wpFk_done ?_
      refine HQ.out _ _ ?_
      go_wp2
      have H9 := Lib.hid (HOt.out.next HS.out)
      clear HOt HRa HRb HS HQ S1 S2 S3 S4 OA OB eB
      go_loopw [17] (fun s17 wr => ∃ k : Nat, s17 = .int .i64 (k : Int) ∧ k ≤ m ∧ Hid (PrH w s A n c hs LA ls wr)) (fun s17 _ => (m - intOf s17).toNat)
      case atStart => exact ⟨0, rfl, by omega, H9⟩
      case round =>
        clear H9
        obtain ⟨i, rfl, him, HO⟩ := hrel
        by_cases hlt2 : i < m
        · have d6 : (i : Int) < (m : Int) := by omega
          have d7 : (i : Int) + 1 ≤ (m : Int) := by omega
          have d8 : (i : Int) + 1 ≤ (lc : Int) := by omega
          have d9 : (m : Int) ≤ (lc : Int) := by omega
          have d10 : (i : Int) ≤ (i : Int) + 1 := by omega
          have d11 : ((i : Int) + 1 - (i : Int)).toNat = 1 := by omega
          have d12 : ((lc : Int) - (i : Int)).toNat = lc - i := by omega
          have d13 : ¬ (lc = i) := by omega
          have d14 : i + 1 - i = 1 := by omega
          have hwj : IntKind.i64.wrap ((i : Int) + 1) = (i : Int) + 1 := by rw [IntKind.wrap_i64]; omega
          have d15 : (0 : Int) ≤ (i : Int) + 1 := by omega
          have d16 : ((i : Int) + 1).toNat = i + 1 := by omega
          have d17 : i ≤ i + 1 := by omega
          have hil : i < ls.length := by rw [← hm.out]; exact hlt2
          have hwi : IntKind.i64.wrap (i : Int) = (i : Int) := by rw [IntKind.wrap_i64]; omega
          obtain ⟨ad, rfl⟩ := HO.out.hl.some i hil
          obtain ⟨x, hx⟩ : ∃ x, Hid (x = ls.getD i []) := ⟨_, Lib.hid rfl⟩
          obtain ⟨X, hX⟩ : ∃ X, Hid (X = nums .u8 x) := ⟨_, Lib.hid rfl⟩
          have hx32 : Hid (x.length = 32 ∧ bytes x) := Lib.hid (by rw [hx.out]; exact hashes_at HHl.out i hil)
          have hone : Hid ((ls.drop i).take 1 = [x]) := Lib.hid (by
            rw [List.drop_eq_getElem_cons hil, hx.out, List.getD_eq_getElem?_getD, List.getElem?_eq_getElem hil]; rfl)
          obtain ⟨z2, hz2⟩ : ∃ z, Hid (z = (extF s hs [x]).1) := ⟨_, Lib.hid rfl⟩
          obtain ⟨H2s, hH2⟩ : ∃ z, Hid (z = (extF s hs [x]).2.1) := ⟨_, Lib.hid rfl⟩
          obtain ⟨er2, her2⟩ : ∃ z, Hid (z = (extF s hs [x]).2.2) := ⟨_, Lib.hid rfl⟩
          obtain ⟨q2, hq2⟩ : ∃ q, Hid (q = H2s.length) := ⟨_, Lib.hid rfl⟩
          have hxh : Hid (hashes [x]) := Lib.hid (fun l hl => by rw [List.mem_singleton.1 hl]; exact hx32.out)
          have hH2h : Hid (hashes H2s) := Lib.hid (by rw [hH2.out]; exact extF_hashes HH.out hxh.out)
          have hlen2 : Hid (H2s.length ≤ 9223372036854775807) := Lib.hid (by rw [hH2.out]; exact extF_len _ _ _ (by have := hh100.out; simp; omega))
          have XA : Hid (∀ W, PrH w s A n c hs (some ad) ls W → Calls Tryd.prog 28 #[.agg #[.int .i64 s, .slice A n c], .agg X] W fun e w' => ∃ A' c', e = .returned (.tuple #[.agg #[.int .i64 z2, .slice A' q2 c'], .int .i64 er2]) ∧ OwnL W w' (.slice A' q2 c') q2 H2s) := Lib.hid fun W hW => by
            have := append_any W hW.tab s HSB.out A c hs HH.out hW.hr x hx32.out
            rw [← hn.out, ← hX.out] at this
            refine this.mono ?_
            rintro e w' ⟨A', c', he, ho⟩
            rw [← hz2.out, ← hH2.out, ← her2.out, ← hq2.out] at he
            rw [← hH2.out, ← hq2.out] at ho
            exact ⟨A', c', he, ho⟩
          have XB : Hid (∀ W, PrH w s A n c hs (some ad) ls W → Calls Tryd.prog 14 #[.agg #[.int .i64 s, .slice A n c], .slice (some (ad.add (i * 32))) 1 (lc - i)] W fun e w' => ∃ A' c', e = .returned (.tuple #[.agg #[.int .i64 z2, .slice A' q2 c'], .int .i64 er2]) ∧ OwnL W w' (.slice A' q2 c') q2 H2s) := Lib.hid fun W hW => by
            have h1 : HL W W.heap.size (some (ad.add (i * 32))) [x] := by rw [← hone.out]; exact HL.take (HL.drop hW.hl i) 1
            have := refExtend_any W s HSB.out A c hs HH.out hW.hr (some (ad.add (i * 32))) (lc - i) [x] hxh.out h1 (by simp)
            rw [← hn.out] at this
            refine this.mono ?_
            rintro e w' ⟨A', c', he, ho⟩
            rw [← hz2.out, ← hH2.out, ← her2.out, ← hq2.out] at he
            rw [← hH2.out, ← hq2.out] at ho
            exact ⟨A', c', he, ho⟩
          have S5 : Hid (∀ W A1 A2 c1 c2, HW W A1 H2s → HW W A2 H2s → Calls Tryd.prog 17 #[.agg #[.int .i64 z2, .slice A1 q2 c1], .agg #[.int .i64 z2, .slice A2 q2 c2]] W fun e w' => e = .returned (.bool true) ∧ Below W.heap.size W w') := Lib.hid fun W A1 A2 c1 c2 h1 h2 => by
            have := refSame_any W z2 z2 A1 A2 c1 c2 H2s H2s hH2h.out hH2h.out hlen2.out hlen2.out h1 h2
            rw [← hq2.out, show sameB z2 H2s z2 H2s = true from decide_eq_true ⟨rfl, rfl⟩] at this
            exact this
          have RX : Hid (∀ W, PrH w s A n c hs (some ad) ls W → (readAt (.pointer (some (ad.add (i * 32))))).run Tryd.prog W = .ok (.agg X) W) := Lib.hid fun W hW => by
            rw [hX.out, hx.out]; exact HL.read hW.hl HHl.out i hil
          clear hil
          obtain ⟨w9, hw9⟩ : ∃ w9, w9 = wr := ⟨_, rfl⟩
          rw [← hw9] at HO ⊢
          clear hw9
          have HOt := HO
          clear HO
          go_upto_region 20 with fail
          go_cut [18, 19] (fun s18 s19 wx => ∃ b A' c', s18 = .pointer (some ⟨b, 0, none⟩) ∧ s19 = .int .i64 er2 ∧ Hid (PrH w s A n c hs (some ad) ls wx ∧ RgW wx b z2 A' q2 c' H2s))
          case first =>
            refine wp_region_fk (Below w9.heap.size w9) (.get 0 (.get 1 (.get 2 (.get 3 (.get 4 (.fork 5 9 (.get 6 (.get 7 (.get 8 (.call 9 (.call 10 (.get 11 .done)))))) (.call 5 (.get 6 (.get 7 (.get 8 (.call 10 (.get 11 .done)))))))))))) (by kernel_rfl) rfl (by kernel_rfl) (by kernel_rfl) (by intro c a d v w h; cases d <;> exact h) (Below.refl w9.heap.size w9).drew (fun Q' hQ => ?_)
            have HS := Lib.hid (Below.refl w9.heap.size w9).drew
            have HQ := Lib.hid hQ
            clear hQ
            refine wpFk_get rfl (by rfl) (fun K hK => ?_)
            refine ⟨?_, fun w' hS' => ?_, ?_⟩
            rotate_left
            · have c0 := (HOt.out.next hS').r.cell 0
              have c1 := (HOt.out.next hS').r.cell 1
              go_simp
              try (with_reducible rfl)
            try go_simp
            refine hK _ ?_
            clear hK K
            refine wpFk_get rfl (by rfl) (fun K hK => ?_)
            refine ⟨?_, fun w' hS' => ?_, ?_⟩
            rotate_left
            · go_simp
              try (with_reducible rfl)
            try go_simp
            refine hK _ ?_
            clear hK K
            refine wpFk_get rfl (by rfl) (fun K hK => ?_)
            refine ⟨?_, fun w' hS' => ?_, ?_⟩
            rotate_left
            · go_simp
              try (with_reducible rfl)
            try go_simp
            refine hK _ ?_
            clear hK K
            refine wpFk_get rfl (by rfl) (fun K hK => ?_)
            refine ⟨?_, fun w' hS' => ?_, ?_⟩
            rotate_left
            · go_simp
              try (with_reducible rfl)
            try go_simp
            refine hK _ ?_
            clear hK K
            refine wpFk_get rfl (by rfl) (fun K hK => ?_)
            refine ⟨_, fun w' hS' => get_load rfl rfl (RX.out _ (HOt.out.next hS')), ?_⟩
            try go_simp
            refine hK _ ?_
            clear hK K
            refine wpFk_fork ?_ ?_
            · refine wpFk_call rfl (by rfl) (fun K hK => ?_)
              go_simp
              go_at_call 28
              refine (XA.out _ (HOt.out.next HS.out)).mono ?_
              rintro e w4 ⟨Ab, cb, rfl, ho⟩
              have HO := Lib.hid ho
              have hb := ho.2
              replace HS := Lib.hid (below_new HS.out hb)
              clear hb ho
              refine hK _ _ HS.out ?_
              clear hK K
              refine wpFk_get rfl (by rfl) (fun K hK => ?_)
              refine ⟨?_, fun w' hS' => ?_, ?_⟩
              rotate_left
              · go_simp
                try (with_reducible rfl)
              try go_simp
              refine hK _ ?_
              clear hK K
              refine wpFk_get rfl (by rfl) (fun K hK => ?_)
              refine ⟨?_, fun w' hS' => ?_, ?_⟩
              rotate_left
              · go_simp
                try (with_reducible rfl)
              try go_simp
              refine hK _ ?_
              clear hK K
              refine wpFk_get rfl (by rfl) (fun K hK => ?_)
              refine ⟨?_, fun w' hS' => ?_, ?_⟩
              rotate_left
              · go_simp
                try (with_reducible rfl)
              try go_simp
              refine hK _ ?_
              clear hK K
              refine wpFk_call rfl (by rfl) (fun K hK => ?_)
              go_simp
              have HSb := HS
              have HZ := Lib.hid (Row.made w4 24 #[.int .i64 0, .slice none 0 0])
              replace HS := Lib.hid (HS.out.alloc HS.out.size (.cells #[.int .i64 0, .slice none 0 0] 24))
              refine hK _ _ HS.out ?_
              clear hK K
              refine wpFk_call rfl (by rfl) (fun K hK => ?_)
              go_simp
              have HF := Lib.hid (Row.made w4 24 #[.int .i64 z2, .slice Ab q2 cb])
              replace HS := Lib.hid (HSb.out.alloc HSb.out.size (.cells #[.int .i64 z2, .slice Ab q2 cb] 24))
              refine hK _ _ HS.out ?_
              clear hK K
              refine wpFk_get rfl (by rfl) (fun K hK => ?_)
              refine ⟨?_, fun w' hS' => ?_, ?_⟩
              rotate_left
              · go_simp
                try (with_reducible rfl)
              try go_simp
              refine hK _ ?_
              clear hK K
              refine wpFk_done ?_
              refine HQ.out _ _ ?_
              go_wp2
              go_meet
              case rel => exact ⟨_, _, _, rfl, rfl, Lib.hid ⟨HOt.out.next HS.out, HF.out, (own_HW HO.out hq2.out hH2h.out).next ((Below.refl w4.heap.size w4).alloc (Nat.le_refl _) _)⟩⟩
            · refine wpFk_call rfl (by rfl) (fun K hK => ?_)
              go_simp
              have HSb := HS
              have HZ := Lib.hid (Row.made w9.drew 24 #[.int .i64 0, .slice none 0 0])
              replace HS := Lib.hid (HS.out.alloc HS.out.size (.cells #[.int .i64 0, .slice none 0 0] 24))
              refine hK _ _ HS.out ?_
              clear hK K
              refine wpFk_call rfl (by rfl) (fun K hK => ?_)
              go_simp
              go_at_call 28
              refine (XA.out _ (HOt.out.next HS.out)).mono ?_
              rintro e w4 ⟨Ab, cb, rfl, ho⟩
              have HO := Lib.hid ho
              have hb := ho.2
              have HZ4 : Hid (Row w4 w9.heap.size 24 #[.int .i64 0, .slice none 0 0]) := Lib.hid (HZ.out.next hb)
              have z0 := HZ4.out.cell 0
              have z1 := HZ4.out.cell 1
              have f0 := HZ4.out.free 0
              have f1 := HZ4.out.free 1
              replace HS := Lib.hid (below_new HS.out hb)
              clear hb ho
              refine hK _ _ HS.out ?_
              clear hK K
              refine wpFk_get rfl (by rfl) (fun K hK => ?_)
              refine ⟨?_, fun w' hS' => ?_, ?_⟩
              rotate_left
              · go_simp
                try (with_reducible rfl)
              try go_simp
              refine hK _ ?_
              clear hK K
              refine wpFk_get rfl (by rfl) (fun K hK => ?_)
              refine ⟨?_, fun w' hS' => ?_, ?_⟩
              rotate_left
              · go_simp
                try (with_reducible rfl)
              try go_simp
              refine hK _ ?_
              clear hK K
              refine wpFk_get rfl (by rfl) (fun K hK => ?_)
              refine ⟨?_, fun w' hS' => ?_, ?_⟩
              rotate_left
              · go_simp
                try (with_reducible rfl)
              try go_simp
              refine hK _ ?_
              clear hK K
              refine wpFk_call rfl (by rfl) (fun K hK => ?_)
              go_simp
              have HF := Lib.hid ((HZ4.out.put 0 (.int .i64 z2)).put 1 (.slice Ab q2 cb))
              replace HS := Lib.hid ((HS.out.setCell (p := ⟨w9.heap.size, 0, none⟩) (Nat.le_refl _) (.int .i64 z2)).setCell (p := ⟨w9.heap.size, 1, none⟩) (Nat.le_refl _) (.slice Ab q2 cb))
              refine hK _ _ HS.out ?_
              clear hK K
              refine wpFk_get rfl (by rfl) (fun K hK => ?_)
              refine ⟨?_, fun w' hS' => ?_, ?_⟩
              rotate_left
              · go_simp
                try (with_reducible rfl)
              try go_simp
              refine hK _ ?_
              clear hK K
              refine wpFk_done ?_
              refine HQ.out _ _ ?_
              go_wp2
              go_meet
              case rel => exact ⟨_, _, _, rfl, rfl, Lib.hid ⟨HOt.out.next HS.out, HF.out, own_HW2 HO.out.1 hq2.out hH2h.out (by simp) _ _⟩⟩
          case rest =>
            obtain ⟨b4, A4, c4, rfl, rfl, H4⟩ := hcut
            have H4a := Lib.hid H4.out.1
            have H4b := Lib.hid H4.out.2
            clear H4 XA
            obtain ⟨wt, hwt⟩ : ∃ wt, wt = wc := ⟨_, rfl⟩
            rw [← hwt] at H4a H4b ⊢
            clear hwt
            go_upto_region 21 with fail
            go_cut [20, 21] (fun s20 s21 wx => ∃ b A' c', s20 = .pointer (some ⟨b, 0, none⟩) ∧ s21 = .int .i64 er2 ∧ Hid (PrH w s A n c hs (some ad) ls wx ∧ RgW wx b4 z2 A4 q2 c4 H2s ∧ RgW wx b z2 A' q2 c' H2s))
            case first =>
              refine wp_region_fk (Below wt.heap.size wt) (.get 0 (.get 1 (.get 2 (.get 3 (.get 4 (.get 5 (.fork 6 10 (.get 7 (.get 8 (.get 9 (.call 10 (.call 11 (.get 12 .done)))))) (.call 6 (.get 7 (.get 8 (.get 9 (.call 11 (.get 12 .done))))))))))))) (by kernel_rfl) rfl (by kernel_rfl) (by kernel_rfl) (by intro c a d v w h; cases d <;> exact h) (Below.refl wt.heap.size wt).drew (fun Q' hQ => ?_)
              have HS := Lib.hid (Below.refl wt.heap.size wt).drew
              have HQ := Lib.hid hQ
              clear hQ
              refine wpFk_get rfl (by rfl) (fun K hK => ?_)
              refine ⟨?_, fun w' hS' => ?_, ?_⟩
              rotate_left
              · have c0 := (H4a.out.next hS').r.cell 0
                have c1 := (H4a.out.next hS').r.cell 1
                go_simp
                try (with_reducible rfl)
              try go_simp
              refine hK _ ?_
              clear hK K
              refine wpFk_get rfl (by rfl) (fun K hK => ?_)
              refine ⟨?_, fun w' hS' => ?_, ?_⟩
              rotate_left
              · go_simp
                try (with_reducible rfl)
              try go_simp
              refine hK _ ?_
              clear hK K
              refine wpFk_get rfl (by rfl) (fun K hK => ?_)
              refine ⟨?_, fun w' hS' => ?_, ?_⟩
              rotate_left
              · go_simp
                try (with_reducible rfl)
              try go_simp
              refine hK _ ?_
              clear hK K
              refine wpFk_get rfl (by rfl) (fun K hK => ?_)
              refine ⟨?_, fun w' hS' => ?_, ?_⟩
              rotate_left
              · go_simp
                try (with_reducible rfl)
              try go_simp
              refine hK _ ?_
              clear hK K
              refine wpFk_get rfl (by rfl) (fun K hK => ?_)
              refine ⟨?_, fun w' hS' => ?_, ?_⟩
              rotate_left
              · go_simp
                try (with_reducible rfl)
              try go_simp
              refine hK _ ?_
              clear hK K
              refine wpFk_get rfl (by rfl) (fun K hK => ?_)
              refine ⟨?_, fun w' hS' => ?_, ?_⟩
              rotate_left
              · go_simp
                try (with_reducible rfl)
              try go_simp
              refine hK _ ?_
              clear hK K
              refine wpFk_fork ?_ ?_
              · refine wpFk_call rfl (by rfl) (fun K hK => ?_)
                go_simp
                go_at_call 14
                refine (XB.out _ (H4a.out.next HS.out)).mono ?_
                rintro e w4 ⟨Ab, cb, rfl, ho⟩
                have HO := Lib.hid ho
                have hb := ho.2
                replace HS := Lib.hid (below_new HS.out hb)
                clear hb ho
                refine hK _ _ HS.out ?_
                clear hK K
                refine wpFk_get rfl (by rfl) (fun K hK => ?_)
                refine ⟨?_, fun w' hS' => ?_, ?_⟩
                rotate_left
                · go_simp
                  try (with_reducible rfl)
                try go_simp
                refine hK _ ?_
                clear hK K
                refine wpFk_get rfl (by rfl) (fun K hK => ?_)
                refine ⟨?_, fun w' hS' => ?_, ?_⟩
                rotate_left
                · go_simp
                  try (with_reducible rfl)
                try go_simp
                refine hK _ ?_
                clear hK K
                refine wpFk_get rfl (by rfl) (fun K hK => ?_)
                refine ⟨?_, fun w' hS' => ?_, ?_⟩
                rotate_left
                · go_simp
                  try (with_reducible rfl)
                try go_simp
                refine hK _ ?_
                clear hK K
                refine wpFk_call rfl (by rfl) (fun K hK => ?_)
                go_simp
                have HSb := HS
                have HZ := Lib.hid (Row.made w4 24 #[.int .i64 0, .slice none 0 0])
                replace HS := Lib.hid (HS.out.alloc HS.out.size (.cells #[.int .i64 0, .slice none 0 0] 24))
                refine hK _ _ HS.out ?_
                clear hK K
                refine wpFk_call rfl (by rfl) (fun K hK => ?_)
                go_simp
                have HF := Lib.hid (Row.made w4 24 #[.int .i64 z2, .slice Ab q2 cb])
                replace HS := Lib.hid (HSb.out.alloc HSb.out.size (.cells #[.int .i64 z2, .slice Ab q2 cb] 24))
                refine hK _ _ HS.out ?_
                clear hK K
                refine wpFk_get rfl (by rfl) (fun K hK => ?_)
                refine ⟨?_, fun w' hS' => ?_, ?_⟩
                rotate_left
                · go_simp
                  try (with_reducible rfl)
                try go_simp
                refine hK _ ?_
                clear hK K
                refine wpFk_done ?_
                refine HQ.out _ _ ?_
                go_wp2
                go_meet
                case rel => exact ⟨_, _, _, rfl, rfl, Lib.hid ⟨H4a.out.next HS.out, H4b.out.next HS.out, HF.out, (own_HW HO.out hq2.out hH2h.out).next ((Below.refl w4.heap.size w4).alloc (Nat.le_refl _) _)⟩⟩
              · refine wpFk_call rfl (by rfl) (fun K hK => ?_)
                go_simp
                have HSb := HS
                have HZ := Lib.hid (Row.made wt.drew 24 #[.int .i64 0, .slice none 0 0])
                replace HS := Lib.hid (HS.out.alloc HS.out.size (.cells #[.int .i64 0, .slice none 0 0] 24))
                refine hK _ _ HS.out ?_
                clear hK K
                refine wpFk_call rfl (by rfl) (fun K hK => ?_)
                go_simp
                go_at_call 14
                refine (XB.out _ (H4a.out.next HS.out)).mono ?_
                rintro e w4 ⟨Ab, cb, rfl, ho⟩
                have HO := Lib.hid ho
                have hb := ho.2
                have HZ4 : Hid (Row w4 wt.heap.size 24 #[.int .i64 0, .slice none 0 0]) := Lib.hid (HZ.out.next hb)
                have z0 := HZ4.out.cell 0
                have z1 := HZ4.out.cell 1
                have f0 := HZ4.out.free 0
                have f1 := HZ4.out.free 1
                replace HS := Lib.hid (below_new HS.out hb)
                clear hb ho
                refine hK _ _ HS.out ?_
                clear hK K
                refine wpFk_get rfl (by rfl) (fun K hK => ?_)
                refine ⟨?_, fun w' hS' => ?_, ?_⟩
                rotate_left
                · go_simp
                  try (with_reducible rfl)
                try go_simp
                refine hK _ ?_
                clear hK K
                refine wpFk_get rfl (by rfl) (fun K hK => ?_)
                refine ⟨?_, fun w' hS' => ?_, ?_⟩
                rotate_left
                · go_simp
                  try (with_reducible rfl)
                try go_simp
                refine hK _ ?_
                clear hK K
                refine wpFk_get rfl (by rfl) (fun K hK => ?_)
                refine ⟨?_, fun w' hS' => ?_, ?_⟩
                rotate_left
                · go_simp
                  try (with_reducible rfl)
                try go_simp
                refine hK _ ?_
                clear hK K
                refine wpFk_call rfl (by rfl) (fun K hK => ?_)
                go_simp
                have HF := Lib.hid ((HZ4.out.put 0 (.int .i64 z2)).put 1 (.slice Ab q2 cb))
                replace HS := Lib.hid ((HS.out.setCell (p := ⟨wt.heap.size, 0, none⟩) (Nat.le_refl _) (.int .i64 z2)).setCell (p := ⟨wt.heap.size, 1, none⟩) (Nat.le_refl _) (.slice Ab q2 cb))
                refine hK _ _ HS.out ?_
                clear hK K
                refine wpFk_get rfl (by rfl) (fun K hK => ?_)
                refine ⟨?_, fun w' hS' => ?_, ?_⟩
                rotate_left
                · go_simp
                  try (with_reducible rfl)
                try go_simp
                refine hK _ ?_
                clear hK K
                refine wpFk_done ?_
                refine HQ.out _ _ ?_
                go_wp2
                go_meet
                case rel => exact ⟨_, _, _, rfl, rfl, Lib.hid ⟨H4a.out.next HS.out, H4b.out.next HS.out, HF.out, own_HW2 HO.out.1 hq2.out hH2h.out (by simp) _ _⟩⟩
            case rest =>
              obtain ⟨b5, A5, c5, rfl, rfl, H6⟩ := hcut
              have H6a := Lib.hid H6.out.1
              have H6b := Lib.hid H6.out.2.1.2
              have H6c := Lib.hid H6.out.2.2.2
              have c0 := H6.out.2.1.1.cell 0
              have c1 := H6.out.2.1.1.cell 1
              have c2 := H6.out.2.2.1.cell 0
              have c3 := H6.out.2.2.1.cell 1
              clear H4a H4b H6 XB
              go_wp2_with (go_at_call 17; (with_reducible refine (S5.out _ _ _ _ _ H6b.out H6c.out).mono ?_); rintro e w7 ⟨rfl, hb⟩; have H7 := Lib.hid (H6a.out.next hb); clear hb c0 c1 c2 c3)
              go_roundw
              case rel => exact ⟨i + 1, by go_num, by omega, H7⟩
              case measure => simp [intOf]; omega
        · go_wp2_with (go_at_call 12; (with_reducible refine (ranged_any _ HO.out.tab).mono ?_); rintro e w2 ⟨rfl, hb⟩; have HB2 := Lib.hid (below_new HO.out.below hb); clear hb)
          go_ret
          exact ⟨rfl, HB2.out⟩
end Go.Proofs.YtfakimbneenfdaaDoor
namespace Go.Proofs.YtfakimbneenfdaaDoor
open Go.ChangeShapes Go.WideShapes Go.ChangeAt Go.RowKit
set_option linter.unusedVariables false
set_option maxRecDepth 100000

/-- A hash's cells, opened. -/
theorem hash_cells {H : Type} {enc : TypeId × Value → H} {W : World} {base : Nat} {sp : Nat → Bool} {fuel : Nat} {cs : List Value} {x : DataW H × List MemPlace}
    (h : DataW.trod enc Tryd.prog W base sp true fuel 31 cs = some x) (hl : cs.length = 32) :
    ∃ l : List Int, l.length = 32 ∧ (∀ y ∈ l, 0 ≤ y ∧ y < 256) ∧ ∀ j, j < 32 → cs[j]? = some (.int .u8 (l.getD j 0)) := by
  obtain ⟨xs, m, _, _, _, hxl, hx⟩ := DataW.trod_array Tryd.underlying31 h
  have key : ∀ i, i < 32 → ∃ k : Int, cs[i]? = some (.int .u8 k) ∧ 0 ≤ k ∧ k < 256 := fun i hi => by
    have e0 := hx i hi
    rw [List.getElem?_eq_getElem (show i < xs.length by omega)] at e0
    obtain ⟨k, hk, _, wk⟩ := DataW.trod_int Tryd.underlying5 e0
    have b := bounds_u8 wk
    simp only [cByte, Nat.mul_one] at hk
    exact ⟨k, of_one cs i _ hk, b.1, by omega⟩
  refine ⟨(List.range 32).map fun i => numOf cs[i]?, by simp, ?_, fun j hj => ?_⟩
  · intro y hy
    obtain ⟨i, hi, rfl⟩ := List.mem_map.1 hy
    obtain ⟨k, hk, b1, b2⟩ := key i (by simpa using hi)
    rw [hk]
    exact ⟨b1, b2⟩
  · obtain ⟨k, hk, _⟩ := key j hj
    have e : ((List.range 32).map fun i => numOf cs[i]?).getD j 0 = k := by simp [List.getD, hj, hk, numOf]
    rw [e, hk]
/-- A list of hashes, opened. -/
theorem open_list {H : Type} {enc : TypeId × Value → H} {W : World} {base b0 : Nat} {sp : Nat → Bool} {v : Value} {d : DataW H} {ps : List MemPlace}
    (hval : Value.okWide Tryd.prog W .any b0 22 v) (h : DataW.Trod enc Tryd.prog W base sp true 22 v d ps) :
    ∃ A c ls, v = .slice A ls.length c ∧ hashes ls ∧ HL W W.heap.size A ls ∧ ls.length ≤ c ∧ c ≤ maxLen := by
  obtain ⟨A, len, cap, rfl⟩ := okWide_slice Tryd.underlying22 hval
  obtain ⟨fuel, hf⟩ := h
  rcases DataW.trod_slice Tryd.underlying22 hf with ⟨hcs, hx⟩ | ⟨a, len', cap', elems, rest, n, _, hcs, hx, hb, hl, hm, hlen, hel, _⟩
  · simp [Value.cells] at hcs
    obtain ⟨rfl, rfl, rfl⟩ := hcs
    exact ⟨none, 0, [], rfl, fun l h => by (cases h), HL.nil _ _ _, Nat.le_refl _, by simp⟩
  · simp [Value.cells] at hcs
    obtain ⟨rfl, rfl, rfl⟩ := hcs
    have each : ∀ i, i < len → ∃ l : List Int, l.length = 32 ∧ (∀ y ∈ l, 0 ≤ y ∧ y < 256) ∧ ∀ j, j < 32 → W.cell? (a.add (i * 32 + j)) = some (.int .u8 (l.getD j 0)) := fun i hi => by
      have e0 := hel i hi
      rw [List.getElem?_eq_getElem (show i < elems.length by omega), Option.bind_eq_some_iff, cHash] at e0
      obtain ⟨cs, hc, ht⟩ := e0
      obtain ⟨_, hcl, hcc⟩ := World.cells?_some hc
      obtain ⟨l, h1, h2, h3⟩ := hash_cells ht hcl
      refine ⟨l, h1, h2, fun j hj => ?_⟩
      rw [← add_of_add, hcc j hj]
      exact h3 j hj
    have hex : ∃ f : Nat → List Int, ∀ i, i < len → (f i).length = 32 ∧ (∀ y ∈ f i, 0 ≤ y ∧ y < 256) ∧ ∀ j, j < 32 → W.cell? (a.add (i * 32 + j)) = some (.int .u8 ((f i).getD j 0)) :=
      ⟨fun i => if h : i < len then (each i h).choose else [], fun i hi => by simp only [dif_pos hi]; exact (each i hi).choose_spec⟩
    obtain ⟨f, hf⟩ := hex
    have hll : ((List.range len).map f).length = len := by simp
    refine ⟨some a, cap, (List.range len).map f, by rw [hll], fun l hl' => ?_, fun i hi => ?_, by rw [hll]; omega, by omega⟩
    · obtain ⟨i, hi, rfl⟩ := List.mem_map.1 hl'
      have := hf i (by simpa using hi)
      exact ⟨this.1, this.2.1⟩
    · rw [hll] at hi
      have hfi := hf i hi
      have e : ((List.range len).map f).getD i [] = f i := by simp [List.getD, hi]
      refine ⟨a, rfl, ?_, fun j hj => ?_⟩
      · have := block_lt_of_cell (hfi.2.2 0 (by omega))
        rwa [block_of_add] at this
      · rw [e]; exact hfi.2.2 j hj
end Go.Proofs.YtfakimbneenfdaaDoor
namespace Go.Proofs.YtfakimbneenfdaaDoor
open Go.ChangeShapes Go.WideShapes Go.ChangeAt Go.RowKit
set_option linter.unusedVariables false
set_option maxRecDepth 100000

theorem cRange : Tryd.prog.cellsOf 24 = 2 := by kernel_rfl
theorem cInt64R : Tryd.prog.cellsOf 3 = 1 := by kernel_rfl
theorem cListR : Tryd.prog.cellsOf 22 = 1 := by kernel_rfl
/-- A list's one cell, opened. -/
theorem list_cell {H : Type} {enc : TypeId × Value → H} {W : World} {base fuel : Nat} {sp : Nat → Bool} {cs : List Value} {x : DataW H × List MemPlace}
    (hf : DataW.trod enc Tryd.prog W base sp true fuel 22 cs = some x) :
    ∃ A c ls, cs = [.slice A ls.length c] ∧ hashes ls ∧ HL W W.heap.size A ls ∧ ls.length ≤ c ∧ c ≤ maxLen := by
  rcases DataW.trod_slice Tryd.underlying22 hf with ⟨hcs, hx⟩ | ⟨a, len, cap, elems, rest, n, _, hcs, hx, hb, hl, hm, hlen, hel, _⟩
  · exact ⟨none, 0, [], hcs, fun l h => by (cases h), HL.nil _ _ _, Nat.le_refl _, by simp⟩
  · have each : ∀ i, i < len → ∃ l : List Int, l.length = 32 ∧ (∀ y ∈ l, 0 ≤ y ∧ y < 256) ∧ ∀ j, j < 32 → W.cell? (a.add (i * 32 + j)) = some (.int .u8 (l.getD j 0)) := fun i hi => by
      have e0 := hel i hi
      rw [List.getElem?_eq_getElem (show i < elems.length by omega), Option.bind_eq_some_iff, cHash] at e0
      obtain ⟨cs, hc, ht⟩ := e0
      obtain ⟨_, hcl, hcc⟩ := World.cells?_some hc
      obtain ⟨l, h1, h2, h3⟩ := hash_cells ht hcl
      refine ⟨l, h1, h2, fun j hj => ?_⟩
      rw [← add_of_add, hcc j hj]
      exact h3 j hj
    have hex : ∃ f : Nat → List Int, ∀ i, i < len → (f i).length = 32 ∧ (∀ y ∈ f i, 0 ≤ y ∧ y < 256) ∧ ∀ j, j < 32 → W.cell? (a.add (i * 32 + j)) = some (.int .u8 ((f i).getD j 0)) :=
      ⟨fun i => if h : i < len then (each i h).choose else [], fun i hi => by simp only [dif_pos hi]; exact (each i hi).choose_spec⟩
    obtain ⟨f, hf⟩ := hex
    have hll : ((List.range len).map f).length = len := by simp
    refine ⟨some a, cap, (List.range len).map f, by rw [hll]; exact hcs, fun l hl' => ?_, fun i hi => ?_, by rw [hll]; omega, by omega⟩
    · obtain ⟨i, hi, rfl⟩ := List.mem_map.1 hl'
      have := hf i (by simpa using hi)
      exact ⟨this.1, this.2.1⟩
    · rw [hll] at hi
      have hfi := hf i hi
      have e : ((List.range len).map f).getD i [] = f i := by simp [List.getD, hi]
      refine ⟨a, rfl, ?_, fun j hj => ?_⟩
      · have := block_lt_of_cell (hfi.2.2 0 (by omega))
        rwa [block_of_add] at this
      · rw [e]; exact hfi.2.2 j hj
/-- A range, opened. -/
theorem open_range {H : Type} {enc : TypeId × Value → H} {W : World} {base b0 : Nat} {sp : Nat → Bool} {v : Value} {d : DataW H} {ps : List MemPlace}
    (hval : Value.okWide Tryd.prog W .any b0 24 v) (h : DataW.Trod enc Tryd.prog W base sp true 24 v d ps) :
    ∃ (s : Int) (A : Option Addr) (c : Nat) (hs : List (List Int)), v = .agg #[.int .i64 s, .slice A hs.length c] ∧ (-9223372036854775808 ≤ s ∧ s ≤ 9223372036854775807) ∧ hashes hs ∧ HL W W.heap.size A hs ∧ hs.length ≤ c ∧ c ≤ maxLen := by
  obtain ⟨cs, rfl, hsz⟩ := okWide_struct Tryd.underlying24 hval
  rw [cRange] at hsz
  obtain ⟨fuel, hf⟩ := h
  obtain ⟨xs, m, _, _, _, hl, hx⟩ := DataW.trod_struct Tryd.underlying24 hf
  have hl2 : xs.length = 2 := hl
  have e0 : DataW.trod enc Tryd.prog W base sp true m 3 ((cs.toList.drop 0).take (Tryd.prog.cellsOf 3)) = xs[0]? := hx 0 _ rfl
  have e1 : DataW.trod enc Tryd.prog W base sp true m 22 ((cs.toList.drop 1).take (Tryd.prog.cellsOf 22)) = xs[1]? := hx 1 _ rfl
  rw [List.getElem?_eq_getElem (show 0 < xs.length by omega)] at e0
  rw [List.getElem?_eq_getElem (show 1 < xs.length by omega)] at e1
  rw [cInt64R] at e0
  rw [cListR] at e1
  obtain ⟨s, hs0, _, ws⟩ := DataW.trod_int Tryd.underlying3 e0
  obtain ⟨A, c, hs, hA, h1, h2, h3, h4⟩ := list_cell e1
  have bs := bounds_i64 ws
  refine ⟨s, A, c, hs, ?_, by omega, h1, h2, h3, h4⟩
  congr 1
  apply Array.ext_getElem?
  intro k
  have f0 := of_one cs.toList 0 _ hs0
  have f1 := of_one cs.toList 1 _ hA
  rw [Array.getElem?_toList] at f0 f1
  match k with
  | 0 => rw [f0]; rfl
  | 1 => rw [f1]; rfl
  | k + 2 => rw [Array.getElem?_eq_none (by omega), Array.getElem?_eq_none (by simp)]
end Go.Proofs.YtfakimbneenfdaaDoor
namespace Go.Proofs.YtfakimbneenfdaaDoor.part
open Go.ChangeShapes Go.WideShapes Go.ChangeAt Go.RowKit
open Go.ChangeMaps (open_string)
set_option linter.unusedVariables false

set_option maxRecDepth 100000 in
theorem lifted (os : Os) (started : os.Started) (H : Type) (enc : TypeId × Value → H) :
    ReturnsInHanded {} Tryd.checked os 4 .any (fun w args => (Rows.rangesPartSpec.pre enc Tryd.prog Tryd.f4 [] false w args ∧ laidMetH Tryd.prog laid2 w) ∧ sizedMet enc Tryd.prog Tryd.f4 (OpenSpec.ofChange Rows.rangesPartSpec) false w args)
      (Rows.rangesPartSpec.post enc Tryd.prog Tryd.f4 false true false false) := by
  refine returnsInHanded_of_change_and (C := Tryd.checked) (X := fun w _ => laidMetH Tryd.prog laid2 w) (fun _ _ _ hh h => h.of_heap hh) own started (by kernel_rfl) Tryd.func4
    (ChangeSpec.witness_shaped (enc := enc) (C := Tryd.checked) (os := os) (X := fun w _ => laidMetH Tryd.prog laid2 w) false (World.doorLaid Tryd.prog 400 os) #[.int .i64 0, .slice none 0 0, .agg #[.int .i64 0, .slice none 0 0]] 8 rfl (World.shaped_of_RefB (by kernel_rfl) (by kernel_rfl)) (by kernel_rfl) (by kernel_rfl) (by kernel_rfl) (door_met os _)) ?_
  intro W base args ds gs before hval0 hW _ _ hL _
  have hval : ∀ (j : Nat) t v, Tryd.f4.params[j]? = some t → args[j]? = some v → Value.okWide Tryd.prog W .any base t v := hval0
  have hW' := hW
  obtain ⟨p, q, hA0, hV, rfl, hfz, hnd⟩ := hW
  have hA : DataW.TrodAll enc Tryd.prog W 0 (fun _ => true) true Tryd.f4.params.toList args.toList ds p := hA0
  rw [Tryd.params4] at hA hval
  obtain ⟨v0, vs0, d0, ds0, p0, q0, hargs, rfl, rfl, h0, r0⟩ := trodAll_cons hA
  obtain ⟨v1, vs1, d1, ds1, p1, q1, rfl, rfl, rfl, h1, r1⟩ := trodAll_cons r0
  obtain ⟨v2, vs2, d2, ds2, p2, q2, rfl, rfl, rfl, h2, r2⟩ := trodAll_cons r1
  obtain ⟨rfl, rfl, rfl⟩ := trodAll_nil r2
  obtain rfl : args = #[v0, v1, v2] := by cases args; simp_all
  obtain ⟨rfl, rfl⟩ := trodVars_none hV
  have k1 := h1
  have lt1 : ∀ x ∈ p1, x.block < W.heap.size := by obtain ⟨m, hm⟩ := k1; exact DataW.trod_lt m _ _ _ hm
  have k2 := h2
  have lt2 : ∀ x ∈ p2, x.block < W.heap.size := by obtain ⟨m, hm⟩ := k2; exact DataW.trod_lt m _ _ _ hm
  obtain ⟨n0, rfl, rfl, rfl, w0⟩ := open_int Tryd.underlying3 (hval 0 3 v0 rfl rfl) h0
  have b0 := bounds_i64 w0
  obtain ⟨A1, c1, ls1, rfl, hh1, hl1, hc1, hm1⟩ := open_list (hval 1 22 v1 rfl rfl) h1
  obtain ⟨s2, A2, c2, hs2, rfl, sb2, hh2, hl2, hc2, hm2⟩ := open_range (hval 2 24 v2 rfl rfl) h2
  clear hA0 hval0
  refine (partlaw_any n0 (by omega) A1 c1 ls1 hh1 s2 sb2 A2 c2 hs2 hh2 W (of_laid hL) hl1 hl2 hc1 hm1).mono fun e W' ⟨he, bel⟩ => ?_
  subst he
  exact ⟨_, rfl, _, _, _, [], _, [], hW', trodAll_mk1 (shut_bool Tryd.underlying4 _), (trodAll_cons_mk (shut_int Tryd.underlying3 w0) (trodAll_cons_mk (Below.trod laidOut (by kernel_rfl) (of_decide_eq_true (by kernel_rfl)) k1 bel lt1) (trodAll_cons_mk (Below.trod laidOut (by kernel_rfl) (of_decide_eq_true (by kernel_rfl)) k2 bel lt2) trodAll_mk0))), rfl, bel.frame _, fun h => by cases h⟩

theorem over : Rows.RangesPartSaid :=
  OpenClaim.holds_of_wide 4 Tryd.f4 rfl rfl rfl rfl rfl rfl rfl ⟨rfl, rfl, rfl, rfl, rfl⟩ rfl rfl rfl rfl rfl (by kernel_rfl) Tryd.func4 (by kernel_rfl)
    (of_decide_eq_true (by kernel_rfl)) (by unfold Func.isWrapper; first | (rw [if_pos (by decide +kernel)]; kernel_rfl) | (rw [if_neg (by decide +kernel)]; exact ⟨rfl, rfl⟩))
    (fun os started H enc _ => lifted os started H enc)

/-- The statement. -/
theorem proved : Rows.RangesPartCardSaid :=
  Claim7.holds_tied_plain_at .later [] [.data, .data] true _ false
    over (fun _ h => by cases h) (by kernel_rfl) (fun _ h => by cases h) rangesPart_row_tie rfl ⟨rfl, rfl⟩ (by kernel_rfl) rfl
    (fun f fn hf hfn => by
      obtain rfl : f = 4 := Option.some.inj ((show Tryd.prog.funcNamed "speculum/speculumlaw05.RangesPart" = some 4 by kernel_rfl).symm.trans hf) |>.symm
      obtain rfl : fn = Tryd.f4 := (Option.some.inj (Tryd.func4.symm.trans hfn)).symm
      exact ⟨by kernel_rfl, fun j t ht => by
        rw [Tryd.params4] at ht
        have hm : t ∈ [3, 22, 24] := by simpa using Array.mem_of_getElem? ht
        have hall : ([3, 22, 24].all fun u => !Tryd.prog.wantsStandIn u) = true := by kernel_rfl
        exact (show Tryd.prog.wantsStandIn t = false by simpa using List.all_eq_true.1 hall t hm)⟩)
    (by kernel_rfl)
#print axioms proved
end Go.Proofs.YtfakimbneenfdaaDoor.part
