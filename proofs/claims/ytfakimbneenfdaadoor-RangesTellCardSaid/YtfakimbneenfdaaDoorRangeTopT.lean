/-
  Several texts in one (a claim has room for 60 files), the card last: RangeRefExt, RangeRefMerge, RangeRefRoot, RangeGreat, PathCopy, RangeLawT, ListCard, RangeArg.
-/
import Derived.Test.YtfakimbneenfdaaDoorRangeRefs
import Derived.Test.YtfakimbneenfdaaDoorRangeExt
import Derived.Test.YtfakimbneenfdaaDoorRangePart
import Derived.Test.YtfakimbneenfdaaDoorRangeRootM
import Derived.Test.YtfakimbneenfdaaDoorRefAll
import Derived.Test.YtfakimbneenfdaaDoorRangeExW
import Derived.Test.YtfakimbneenfdaaDoorListMem
import Derived.Test.YtfakimbneenfdaaDoorRangeRefSame
import Derived.Test.YtfakimbneenfdaaDoorTreeCells
import Derived.Test.YtfakimbneenfdaaDoorShaCard
namespace Go.Proofs.YtfakimbneenfdaaDoor
open Go.RowKit Go.Great
set_option linter.unusedVariables false
set_option maxRecDepth 100000

/-- Trees copied: append to nothing, of a slice that may be nil. -/
theorem append_nilT (ty : TypeId) (c : Nat) (w : World) : (Builtin.append_ #[58, 58] ty #[.slice none 0 0, .slice none 0 c]).run Tryd.prog w = .ok (.slice none 0 0) w := by
  obtain ⟨i0, hi, hz0, hz1, hz2⟩ := info_parts infoTree
  simp [Builtin.append_, run_underlying Tryd.underlying58, sizeOf, typeInfo, hi, Builtin.lenOf, Builtin.firstCells]
theorem wp_appendTC {o : Oper} {a : Act} {w : World} {K : Act → World → Prop} {Q : Exit → Act → World → Prop} (s x : Operand) (ho : o.op = .call { callee := .builtin .append, args := #[s, x], argTypes := #[58, 58] })
    (B : Nat) (us : List Tr) (hsv : a.eval s = .slice none 0 0) (A : Option Addr) (m c : Nat) (hx : a.eval x = .slice A m c) (hm : m = us.length) (hu : okT us) (hU : TL w A us) (hsm : m ≤ 8192) (hB : B ≤ w.heap.size)
    (h : ∀ v' w', ownT w' B v' us → w.grownBy w' none → K (a.put o.dst v') w') : o.wp Tryd.prog a w K Q := by
  cases A with
  | some ad =>
    exact wp_appendT s x ho B (.slice none 0 0) [] us hsv (ownT.start _ _) ad m c hx hm hu hU (by show 0 + m ≤ 8192; omega) hB (fun v' w' h1 h2 => h v' w' h1 h2)
  | none =>
    have e0 : us = [] := by
      cases us with
      | nil => rfl
      | cons u us => obtain ⟨ad, e⟩ := hU.some hu (by simp); cases e
    subst e0
    obtain rfl : m = 0 := hm
    have hk := h (.slice none 0 0) w (ownT.start _ _) (grown_of_below (Below.refl _ _) none)
    unfold Oper.wp execOp
    simp only [ho, resolve, invoke, builtin, Sem.run_bind, Sem.run_pure, Result.andThen_ok, List.map_toArray, List.map_cons, List.map_nil, hsv, hx, append_nilT]
    exact hk
theorem trs_okT (j m : Nat) (hs : List (List Int)) (h : hashes hs) : okT (trs j m hs) := fun u hu => h u.2 (List.of_mem_zip hu).2
theorem trs_sum (m : Nat) (hs : List (List Int)) (h : hs.length = ones m) : ((trs 0 m hs).map Prod.fst).sum = m := by rw [trs_sizes 0 m hs h, sz_sum]; simp
/-- What Extend holds while leaves are put behind. -/
structure ExtL (w wr : World) (s : Int) (A : Option Addr) (n c : Nat) (R ls : List (List Int)) (k S' n' c' : Nat) (A' : Option Addr) (hs' : List (List Int)) : Prop where
  ext : ExtH w wr s A n c
  tl : TL wr A' (trs 0 S' hs')
  len : hs'.length = ones S'
  hh : hashes hs'
  res : adds S' hs' (ls.drop k) = R
  ln : n' = ones S'
  c1 : n' ≤ c'
  c2 : c' ≤ maxLen
attribute [local go_sem ↓ high] read_at write_at
set_option maxHeartbeats 8000000 in
theorem refExtend_any (w : World) (s : Int) (hs64 : -9223372036854775808 ≤ s ∧ s ≤ 9223372036854775807) (A : Option Addr) (c : Nat) (hs : List (List Int)) (hh : hashes hs) (hA : HL w w.heap.size A hs)
    (LA : Option Addr) (lc : Nat) (ls : List (List Int)) (hl : hashes ls) (hL : HL w w.heap.size LA ls) (hsm : ls.length ≤ 100000) :
    Calls Tryd.prog 14 #[.agg #[.int .i64 s, .slice A hs.length c], .slice LA ls.length lc] w (GivesR w (extF s hs ls)) := by
  obtain ⟨n, hn⟩ : ∃ n, Hid (n = hs.length) := ⟨_, Lib.hid rfl⟩
  obtain ⟨m, hm⟩ : ∃ m, Hid (m = ls.length) := ⟨_, Lib.hid rfl⟩
  have hmm : m ≤ 100000 := by rw [hm.out]; exact hsm
  obtain ⟨b, hb⟩ : ∃ b, Hid (b = validB s n) := ⟨_, Lib.hid rfl⟩
  have V1 : Hid (∀ W, Calls Tryd.prog 19 #[.agg #[.int .i64 s, .slice A n c]] W fun e w' => e = .returned (.bool b) ∧ Below W.heap.size W w') := Lib.hid fun W => by
    rw [hb.out]; exact refValid_any s A n c W
  rw [← hn.out, ← hm.out]
  have HB := Lib.hid (ExtH.start w s A n c)
  have HA := Lib.hid hA
  have HL1 := Lib.hid hL
  have HH := Lib.hid hh
  have HHl := Lib.hid hl
  clear hA hL hh hl hsm
  cases b with
  | false =>
    have HF : Hid (extF s hs ls = (0, [], 2)) := Lib.hid (extF_arg (by rw [← hn.out]; exact hb.out.symm))
    go_enter Tryd.func14, Tryd.ntmps14
    go_upto_region 1 with fail
    refine world_gen (fun wx => ExtH w wx s A n c) HB.out (fun wx HX => ?_)
    have HX := Lib.hid HX
    have c0 := HX.out.1.cell 0
    have c1 := HX.out.1.cell 1
    go_wp2_with (go_at_call 19; (with_reducible refine (V1.out _).mono ?_); rintro e w1 ⟨rfl, hb2⟩; have HY := Lib.hid (HX.out.next hb2); clear hb2 c0 c1; have c0 := HY.out.1.cell 0; have d0 := HY.out.2.1.cell 0; have d1 := HY.out.2.1.cell 1; have f0 := HY.out.2.1.free 0; have f1 := HY.out.2.1.free 1)
    have HD := HY.out.done (s' := 0) (A' := none) (k := 0) (c' := 0) (hs := []) ⟨rfl, .inl ⟨rfl, rfl⟩⟩
    have q0 := HD.1.cell 0
    have q1 := HD.1.cell 1
    refine bodyPost_ret (v := .tuple #[.agg #[.int .i64 0, .slice none 0 0], .int .i64 2]) (by simp [results, Tryd.results14, go_sem, q0, q1]) rfl ?_
    unfold GivesR
    rw [HF.out]
    exact ⟨none, 0, rfl, HD.2⟩
  | true =>
    obtain ⟨s0, s1, s2⟩ := validB_ones hb.out.symm
    obtain ⟨S, rfl⟩ : ∃ S : Nat, s = S := ⟨s.toNat, by omega⟩
    have hone : Hid (n = ones S) := Lib.hid (by simpa using s2)
    have HV : Hid (validB (S : Int) hs.length = true) := Lib.hid (by rw [← hn.out]; exact hb.out.symm)
    obtain ⟨t, ht⟩ : ∃ t : Nat, Hid (t = S + m) := ⟨_, Lib.hid rfl⟩
    have e4 : (S : Int) + (m : Int) = (t : Int) := by rw [ht.out]; omega
    have htb : t ≤ 104096 := by rw [ht.out]; omega
    have hwt : IntKind.i64.wrap (t : Int) = (t : Int) := by rw [IntKind.wrap_i64]; omega
    clear s2
    by_cases hfull : 4096 < t
    · have HF : Hid (extF (S : Int) hs ls = (0, [], 60)) := Lib.hid (extF_full HV.out (by rw [← hm.out]; have := ht.out; omega))
      have df : decide (4096 < (t : Int)) = true := decide_eq_true (by omega)
      go_enter Tryd.func14, Tryd.ntmps14
      go_upto_region 1 with fail
      refine world_gen (fun wx => ExtH w wx (S : Int) A n c) HB.out (fun wx HX => ?_)
      have HX := Lib.hid HX
      have c0 := HX.out.1.cell 0
      have c1 := HX.out.1.cell 1
      go_wp2_with (go_at_call 19; (with_reducible refine (V1.out _).mono ?_); rintro e w1 ⟨rfl, hb2⟩; have HY := Lib.hid (HX.out.next hb2); clear hb2 c0 c1; have c0 := HY.out.1.cell 0; have d0 := HY.out.2.1.cell 0; have d1 := HY.out.2.1.cell 1; have f0 := HY.out.2.1.free 0; have f1 := HY.out.2.1.free 1)
      have HD := HY.out.done (s' := 0) (A' := none) (k := 0) (c' := 0) (hs := []) ⟨rfl, .inl ⟨rfl, rfl⟩⟩
      have q0 := HD.1.cell 0
      have q1 := HD.1.cell 1
      refine bodyPost_ret (v := .tuple #[.agg #[.int .i64 0, .slice none 0 0], .int .i64 60]) (by simp [results, Tryd.results14, go_sem, q0, q1]) rfl ?_
      unfold GivesR
      rw [HF.out]
      exact ⟨none, 0, rfl, HD.2⟩
    · have df : decide (4096 < (t : Int)) = false := decide_eq_false (by omega)
      have hm4 : m ≤ 4096 := by have := ht.out; omega
      obtain ⟨R, hR⟩ : ∃ R, Hid (R = adds S hs ls) := ⟨_, Lib.hid rfl⟩
      have HF : Hid (extF (S : Int) hs ls = ((t : Int), R, 0)) := Lib.hid (by rw [extF_ok HV.out (by rw [← hm.out]; have := ht.out; omega), ← hm.out, e4, hR.out]; rfl)
      have O1 : Hid (∀ W, ExtH w W (S : Int) A n c → Calls Tryd.prog 39 #[.agg #[.int .i64 (S : Int), .slice A n c]] W fun e w' => ∃ k' A' c', e = .returned (.slice A' k' c') ∧ ExtL w w' (S : Int) A n c R ls 0 S k' c' A' hs) := Lib.hid fun W h => by
        have := refOpen_any S (by omega) hs HH.out (by rw [← hn.out]; exact hone.out) A c W (HA.out.from h.below)
        rw [← hn.out] at this
        refine this.mono ?_
        rintro e w' ⟨⟨A', c', rfl, h1, h2, h3⟩, hb⟩
        exact ⟨ones S, A', c', rfl, ⟨h.next hb, h3, by rw [← hn.out]; exact hone.out, HH.out, by rw [hR.out]; rfl, rfl, h1, h2⟩⟩
      go_enter Tryd.func14, Tryd.ntmps14
      go_upto_region 1 with fail
      refine world_gen (fun wx => ExtH w wx (S : Int) A n c) HB.out (fun wx HX => ?_)
      have HX := Lib.hid HX
      have c0 := HX.out.1.cell 0
      have c1 := HX.out.1.cell 1
      go_upto_region 5 with (go_at_call 19; (with_reducible refine (V1.out _).mono ?_); rintro e w1 ⟨rfl, hb2⟩; have HY := Lib.hid (HX.out.next hb2); clear hb2 c0 c1; have c0 := HY.out.1.cell 0; have c1 := HY.out.1.cell 1)
      go_wp2_with (go_at_call 39; (with_reducible refine (O1.out _ HY.out).mono ?_); rintro e w2 ⟨k0, A0, ca, rfl, h2⟩; have H2 := Lib.hid h2; clear h2 c0 c1)
      clear O1 V1 HX HY HB
      go_loopw [6, 7] (fun s6 s7 wr => ∃ (k S' n' c' : Nat) (A' : Option Addr) (hs' : List (List Int)), s6 = .slice A' n' c' ∧ s7 = .int .i64 (k : Int) ∧ k ≤ m ∧ Hid (S' = S + k) ∧ Hid (ExtL w wr (S : Int) A n c R ls k S' n' c' A' hs')) (fun _ s7 _ => (m - intOf s7).toNat)
      case atStart => exact ⟨0, S, k0, ca, A0, hs, rfl, rfl, by omega, Lib.hid rfl, H2⟩
      case round =>
        clear H2
        obtain ⟨k, S', n', c', A', hs', rfl, rfl, hkm, hS', HL⟩ := hrel
        by_cases hlt : k < m
        · have d5 : (k : Int) < (m : Int) := by omega
          have hkl : k < ls.length := by rw [← hm.out]; exact hlt
          have hwk : IntKind.i64.wrap (k : Int) = (k : Int) := by rw [IntKind.wrap_i64]; omega
          obtain ⟨ld, rfl⟩ := HL1.out.some k hkl
          obtain ⟨x, hx⟩ : ∃ x, Hid (x = ls.getD k []) := ⟨_, Lib.hid rfl⟩
          obtain ⟨X, hX⟩ : ∃ X, Hid (X = nums .u8 x) := ⟨_, Lib.hid rfl⟩
          have hx32 : Hid (x.length = 32 ∧ bytes x) := Lib.hid (by rw [hx.out]; exact hashes_at HHl.out k hkl)
          have zX : Hid (X.size = 32) := Lib.hid (by rw [hX.out, nums_size]; exact hx32.out.1)
          obtain ⟨ts, hts⟩ : ∃ ts, Hid (ts = trs 0 S' hs') := ⟨_, Lib.hid rfl⟩
          have hS4 : S' + 1 ≤ 4096 := by rw [hS'.out]; have := ht.out; omega
          have tl1 : Hid (ts.length = n') := Lib.hid (by rw [hts.out, trs_length 0 S' hs' HL.out.len, HL.out.ln])
          have hn13 : n' ≤ 13 := by rw [HL.out.ln]; exact ones_le 13 S' (by omega)
          have tok : Hid (okT ts) := Lib.hid (by rw [hts.out]; exact trs_okT _ _ _ HL.out.hh)
          have tx : Hid (okT [((1 : Nat), x)]) := Lib.hid (okT.one hx32.out)
          have HJ : Hid (joinP (ts ++ [((1 : Nat), x)]) = trs 0 (S' + 1) (carry S' hs' x)) := Lib.hid (by
            have := joinP_trs 0 S' hs' x HL.out.len
            rw [Nat.pow_zero, Nat.mul_one] at this
            rw [hts.out]; exact this)
          have HJl : Hid ((joinP (ts ++ [((1 : Nat), x)])).length = ones (S' + 1)) := Lib.hid (by rw [HJ.out]; exact trs_length 0 _ _ (carry_length S' hs' x HL.out.len))
          have HSM : Hid (((ts ++ [((1 : Nat), x)]).map Prod.fst).sum ≤ 8192 ∧ (ts ++ [((1 : Nat), x)]).length ≤ 4096 ∧ (ts ++ [((1 : Nat), x)]).length = n' + 1) := Lib.hid (by
            refine ⟨?_, ?_, ?_⟩
            · rw [List.map_append, List.sum_append, hts.out, trs_sum S' hs' HL.out.len]
              show S' + (1 + 0) ≤ 8192; omega
            · rw [List.length_append, tl1.out]; show n' + 1 ≤ 4096; omega
            · rw [List.length_append, tl1.out]; rfl)
          have RX : Hid (∀ W, Below wr.heap.size wr W → (readAt (.pointer (some (ld.add (k * 32))))).run Tryd.prog W = .ok (.agg X) W) := Lib.hid fun W hW => by
            rw [hX.out, hx.out]; exact (HL1.out.next (below_new HL.out.ext.below hW) (Nat.le_refl _)).read HHl.out k hkl
          have TT : Hid (∀ W, Below wr.heap.size wr W → TL W A' ts) := Lib.hid fun W hW => by rw [hts.out]; exact HL.out.tl.from hW
          have J1 : Hid (∀ W A3 c3, TL W A3 (ts ++ [((1 : Nat), x)]) → n' + 1 ≤ c3 → c3 ≤ maxLen → Calls Tryd.prog 40 #[.slice A3 (n' + 1) c3] W fun e w' => (∃ A4 c4, e = .returned (.slice A4 (ones (S' + 1)) c4) ∧ ones (S' + 1) ≤ c4 ∧ c4 ≤ maxLen ∧ TL w' A4 (trs 0 (S' + 1) (carry S' hs' x))) ∧ Below W.heap.size W w') := Lib.hid fun W A3 c3 h1 h2 h3 => by
            have := refJoin_any (ts ++ [((1 : Nat), x)]) A3 c3 W (tok.out.app tx.out) h1 HSM.out.1 HSM.out.2.1 (by rw [HSM.out.2.2]; exact h2) h3
            rw [HSM.out.2.2, HJl.out, HJ.out] at this
            exact this
          have HNX : Hid (adds (S' + 1) (carry S' hs' x) (ls.drop (k + 1)) = R ∧ (carry S' hs' x).length = ones (S' + 1) ∧ hashes (carry S' hs' x)) := Lib.hid ⟨by
            have := HL.out.res
            rw [List.drop_eq_getElem_cons hkl] at this
            rw [← this, hx.out, List.getD_eq_getElem?_getD, List.getElem?_eq_getElem hkl]; rfl, carry_length S' hs' x HL.out.len, carry_hashes S' hs' x HL.out.hh hx32.out⟩
          have hsm1 : Hid (n' ≤ 8192) := Lib.hid (by omega)
          have hsm2 : Hid (ts.length + 1 ≤ 8192) := Lib.hid (by rw [tl1.out]; omega)
          clear hkl
          go_upto_region 9 with fail
          refine wp_region_fk (Below wr.heap.size wr) (.get 0 (.get 2 (.get 3 (.get 4 (.get 5 (.get 6 (.fork 1 7 (.call 7 (.call 8 (.call 9 (.get 10 .done)))) (.call 1 (.call 8 (.call 9 (.get 10 .done))))))))))) (by kernel_rfl) rfl (by kernel_rfl) (by kernel_rfl) (by intro c a d v w h; cases d <;> exact h) (Below.refl wr.heap.size wr).drew (fun Q' hQ => ?_)
          have HS := Lib.hid (Below.refl wr.heap.size wr).drew
          have HQ := Lib.hid hQ
          clear hQ
          refine wpFk_get rfl (by rfl) (fun K hK => ?_)
          refine ⟨?_, fun w' hS' => ?_, ?_⟩
          rotate_left
          · go_simp
            try (with_reducible rfl)
          try go_simp
          refine hK _ ?_
          clear hK K
          refine wpFk_get rfl (by rfl) (fun K hK => ?_)
          refine ⟨?_, fun w' hS' => ?_, ?_⟩
          rotate_left
          · go_simp
            try (with_reducible rfl)
          try go_simp
          refine hK _ ?_
          clear hK K
          refine wpFk_get rfl (by rfl) (fun K hK => ?_)
          refine ⟨?_, fun w' hS' => ?_, ?_⟩
          rotate_left
          · go_simp
            try (with_reducible rfl)
          try go_simp
          refine hK _ ?_
          clear hK K
          refine wpFk_get rfl (by rfl) (fun K hK => ?_)
          refine ⟨?_, fun w' hS' => ?_, ?_⟩
          rotate_left
          · go_simp
            try (with_reducible rfl)
          try go_simp
          refine hK _ ?_
          clear hK K
          refine wpFk_get rfl (by rfl) (fun K hK => ?_)
          refine ⟨_, fun w' hS' => get_load rfl rfl (RX.out _ hS'), ?_⟩
          try go_simp
          refine hK _ ?_
          clear hK K
          refine wpFk_get rfl (by rfl) (fun K hK => ?_)
          refine ⟨_, fun w' hS' => get_buildT rfl rfl rfl zX.out, ?_⟩
          try go_simp
          refine hK _ ?_
          clear hK K
          refine wpFk_fork ?_ ?_
          · refine wpFk_call rfl (by rfl) (fun K hK => ?_)
            refine wp_appendTC (.const (.slice none 0 0)) (.tmp 27) rfl wr.heap.size ts rfl A' n' c' rfl tl1.out.symm tok.out (TT.out _ HS.out) hsm1.out HS.out.size ?_
            intro v1 w4 ho hg
            have HO : Hid (ownT w4 wr.heap.size v1 ts) := Lib.hid ho
            replace HS := Lib.hid (HS.out.grown hg HS.out.size (by intro k hk; simp at hk))
            clear ho hg
            try go_simp
            refine hK _ _ HS.out ?_
            clear hK K
            refine wpFk_call rfl (by rfl) (fun K hK => ?_)
            refine wp_buildTree (.tmp 33) rfl (treeV 1 X) rfl (treeV_size _ _ zX.out) ?_
            intro w6 hr hb
            have HRt := Lib.hid hr
            replace HO : Hid (ownT w6 wr.heap.size v1 ts) := Lib.hid (own_below HO.out hb)
            replace HS := Lib.hid (below_new HS.out hb)
            clear hr hb
            try go_simp
            refine hK _ _ HS.out ?_
            clear hK K
            refine wpFk_call rfl (by rfl) (fun K hK => ?_)
            refine wp_appendT (.tmp 28) (.tmp 34) rfl wr.heap.size v1 ts [((1 : Nat), x)] rfl HO.out _ 1 1 rfl rfl tx.out (TL.row (by rw [← hX.out]; exact HRt.out)) hsm2.out HS.out.size ?_
            intro v2 w7 ho hg
            replace HS := Lib.hid (HS.out.grown hg HS.out.size (fun k hk => (HO.out.lt k hk).1))
            obtain ⟨A2, c2, hv2, hc2, hm2, htl⟩ := ho.lead
            rw [HSM.out.2.2] at hv2 hc2
            subst hv2
            have HTL := Lib.hid (And.intro hc2 (And.intro hm2 htl))
            clear ho hg hc2 hm2 htl
            try go_simp
            refine hK _ _ HS.out ?_
            clear hK K
            refine wpFk_call rfl (by rfl) (fun K hK => ?_)
            go_simp
            go_at_call 40
            refine (J1.out _ _ _ HTL.out.2.2 HTL.out.1 HTL.out.2.1).mono ?_
            rintro e w8 ⟨⟨A4, c4, rfl, h1, h2, h3⟩, hb⟩
            have HT4 := Lib.hid (And.intro h1 (And.intro h2 h3))
            replace HS := Lib.hid (below_new HS.out hb)
            clear h1 h2 h3 hb
            refine hK _ _ HS.out ?_
            clear hK K
            refine wpFk_get rfl (by rfl) (fun K hK => ?_)
            refine ⟨?_, fun w' hS' => ?_, ?_⟩
            rotate_left
            · go_simp
              try (with_reducible rfl)
            try go_simp
            refine hK _ ?_
            clear hK K
            refine wpFk_done ?_
            refine HQ.out _ _ ?_
            go_wp2
            go_roundw
            case rel => exact ⟨k + 1, S' + 1, ones (S' + 1), c4, A4, carry S' hs' x, rfl, by go_num, by omega, Lib.hid (by rw [hS'.out]; omega), Lib.hid ⟨HL.out.ext.next HS.out, HT4.out.2.2, HNX.out.2.1, HNX.out.2.2, HNX.out.1, rfl, HT4.out.1, HT4.out.2.1⟩⟩
            case measure => simp [intOf]; omega
          · refine wpFk_call rfl (by rfl) (fun K hK => ?_)
            refine wp_buildTree (.tmp 33) rfl (treeV 1 X) rfl (treeV_size _ _ zX.out) ?_
            intro w6 hr hb
            have HRt := Lib.hid hr
            replace HS := Lib.hid (below_new HS.out hb)
            clear hr hb
            try go_simp
            refine hK _ _ HS.out ?_
            clear hK K
            refine wpFk_call rfl (by rfl) (fun K hK => ?_)
            refine wp_appendTC (.const (.slice none 0 0)) (.tmp 27) rfl wr.heap.size ts rfl A' n' c' rfl tl1.out.symm tok.out (TT.out _ HS.out) hsm1.out HS.out.size ?_
            intro v1 w4 ho hg
            have HO : Hid (ownT w4 wr.heap.size v1 ts) := Lib.hid ho
            replace HRt := Lib.hid (HRt.out.grown hg (by simp))
            replace HS := Lib.hid (HS.out.grown hg HS.out.size (by intro k hk; simp at hk))
            clear ho hg
            try go_simp
            refine hK _ _ HS.out ?_
            clear hK K
            refine wpFk_call rfl (by rfl) (fun K hK => ?_)
            refine wp_appendT (.tmp 28) (.tmp 34) rfl wr.heap.size v1 ts [((1 : Nat), x)] rfl HO.out _ 1 1 rfl rfl tx.out (TL.row (by rw [← hX.out]; exact HRt.out)) hsm2.out HS.out.size ?_
            intro v2 w7 ho hg
            replace HS := Lib.hid (HS.out.grown hg HS.out.size (fun k hk => (HO.out.lt k hk).1))
            obtain ⟨A2, c2, hv2, hc2, hm2, htl⟩ := ho.lead
            rw [HSM.out.2.2] at hv2 hc2
            subst hv2
            have HTL := Lib.hid (And.intro hc2 (And.intro hm2 htl))
            clear ho hg hc2 hm2 htl
            try go_simp
            refine hK _ _ HS.out ?_
            clear hK K
            refine wpFk_call rfl (by rfl) (fun K hK => ?_)
            go_simp
            go_at_call 40
            refine (J1.out _ _ _ HTL.out.2.2 HTL.out.1 HTL.out.2.1).mono ?_
            rintro e w8 ⟨⟨A4, c4, rfl, h1, h2, h3⟩, hb⟩
            have HT4 := Lib.hid (And.intro h1 (And.intro h2 h3))
            replace HS := Lib.hid (below_new HS.out hb)
            clear h1 h2 h3 hb
            refine hK _ _ HS.out ?_
            clear hK K
            refine wpFk_get rfl (by rfl) (fun K hK => ?_)
            refine ⟨?_, fun w' hS' => ?_, ?_⟩
            rotate_left
            · go_simp
              try (with_reducible rfl)
            try go_simp
            refine hK _ ?_
            clear hK K
            refine wpFk_done ?_
            refine HQ.out _ _ ?_
            go_wp2
            go_roundw
            case rel => exact ⟨k + 1, S' + 1, ones (S' + 1), c4, A4, carry S' hs' x, rfl, by go_num, by omega, Lib.hid (by rw [hS'.out]; omega), Lib.hid ⟨HL.out.ext.next HS.out, HT4.out.2.2, HNX.out.2.1, HNX.out.2.2, HNX.out.1, rfl, HT4.out.1, HT4.out.2.1⟩⟩
            case measure => simp [intOf]; omega
        · have hkm2 : k = m := by omega
          have HD : Hid (hs' = R) := Lib.hid (by
            have := HL.out.res
            rw [List.drop_of_length_le (by rw [← hm.out]; omega)] at this
            exact this)
          have hSt : S' = t := by rw [hS'.out, ht.out, hkm2]
          subst hSt
          obtain ⟨q, hq⟩ : ∃ q, Hid (q = R.length) := ⟨_, Lib.hid rfl⟩
          have hqn : q = n' := by rw [hq.out, ← HD.out, HL.out.len, HL.out.ln]
          have K1 : Hid (Calls Tryd.prog 41 #[.slice A' n' c'] wr fun e w' => ∃ A9 c9, e = .returned (.agg #[.int .i64 (S' : Int), .slice A9 q c9]) ∧ OwnL wr w' (.slice A9 q c9) q R) := Lib.hid (by
            have hlen := HL.out.len
            have := refClose_any (trs 0 S' hs') A' c' wr (trs_okT _ _ _ HL.out.hh) HL.out.tl (by rw [trs_sum S' hs' hlen]; omega) (by rw [trs_length 0 S' hs' hlen, ← HL.out.ln]; have := ones_le 13 S' (by omega); rw [HL.out.ln]; omega) (by rw [trs_length 0 S' hs' hlen, ← HL.out.ln]; exact HL.out.c1)
            rw [trs_sum S' hs' hlen, trs_length 0 S' hs' hlen, trs_hashes 0 S' hs' hlen, ← HL.out.ln, ← hqn, HD.out] at this
            rw [← hqn]
            exact this)
          have HE := Lib.hid HL.out.ext
          clear hqn HL
          go_wp2_with (go_at_call 41; (with_reducible refine K1.out.mono ?_); rintro e w3 ⟨A9, c9, rfl, ho⟩; have HZ := Lib.hid (HE.out.next ho.2); have HO := Lib.hid ho; clear ho; have d0 := HZ.out.2.1.cell 0; have d1 := HZ.out.2.1.cell 1; have f0 := HZ.out.2.1.free 0; have f1 := HZ.out.2.1.free 1)
          have HD2 := HZ.out.done (s' := (S' : Int)) (own_base HO.out.1 (by have h1 := HE.out.2.1.lt; omega))
          have q0 := HD2.1.cell 0
          have q1 := HD2.1.cell 1
          refine bodyPost_ret (v := .tuple #[.agg #[.int .i64 (S' : Int), .slice A9 q c9], .int .i64 0]) (by simp [results, Tryd.results14, go_sem, q0, q1]) rfl ?_
          unfold GivesR
          rw [HF.out]
          exact ⟨A9, c9, by rw [← hq.out], by rw [← hq.out]; exact HD2.2⟩
end Go.Proofs.YtfakimbneenfdaaDoor
namespace Go.Proofs.YtfakimbneenfdaaDoor
open Go.RowKit Go.Great
set_option linter.unusedVariables false
set_option maxRecDepth 100000

/-- What Merge holds while parts are put behind. -/
structure MgL (w wr : World) (s : Int) (A : Option Addr) (n c : Nat) (R p : List (List Int)) (ns : List Nat) (k g t n' c' : Nat) (A' : Option Addr) (hs' : List (List Int)) : Prop where
  ext : ExtH w wr s A n c
  tl : TL wr A' (trs 0 g hs')
  len : hs'.length = ones g
  hh : hashes hs'
  res : pushes (partsL g t) (p.drop k) g hs' = R
  parts : ns.drop k = partsL g t
  le : g ≤ t
  ln : n' = ones g
  c1 : n' ≤ c'
  c2 : c' ≤ maxLen
attribute [local go_sem ↓ high] read_at write_at
set_option maxHeartbeats 8000000 in
theorem refMerge_any (w : World) (s : Int) (A : Option Addr) (c : Nat) (hs : List (List Int)) (hh : hashes hs) (hA : HL w w.heap.size A hs)
    (size : Int) (PA : Option Addr) (pc : Nat) (p : List (List Int)) (hp : hashes p) (hP : HL w w.heap.size PA p) (hpm : p.length ≤ 9223372036854775807) :
    Calls Tryd.prog 21 #[.agg #[.int .i64 s, .slice A hs.length c], .int .i64 size, .slice PA p.length pc] w (GivesR w (mergeF s hs size p)) := by
  obtain ⟨n, hn⟩ : ∃ n, Hid (n = hs.length) := ⟨_, Lib.hid rfl⟩
  obtain ⟨q, hq⟩ : ∃ q, Hid (q = p.length) := ⟨_, Lib.hid rfl⟩
  have hqm : q ≤ 9223372036854775807 := by rw [hq.out]; exact hpm
  obtain ⟨b, hb⟩ : ∃ b, Hid (b = validB s n) := ⟨_, Lib.hid rfl⟩
  have V1 : Hid (∀ W, Calls Tryd.prog 19 #[.agg #[.int .i64 s, .slice A n c]] W fun e w' => e = .returned (.bool b) ∧ Below W.heap.size W w') := Lib.hid fun W => by
    rw [hb.out]; exact refValid_any s A n c W
  rw [← hn.out, ← hq.out]
  have HB := Lib.hid (ExtH.start w s A n c)
  have HA := Lib.hid hA
  have HP := Lib.hid hP
  have HH := Lib.hid hh
  have HHp := Lib.hid hp
  clear hA hP hh hp hpm
  cases b with
  | false =>
    have HF : Hid (mergeF s hs size p = (0, [], 2)) := Lib.hid (mergeF_no (by rintro ⟨h, _⟩; rw [← hn.out, ← hb.out] at h; cases h))
    go_enter Tryd.func21, Tryd.ntmps21
    go_upto_region 1 with fail
    refine world_gen (fun wx => ExtH w wx s A n c) HB.out (fun wx HX => ?_)
    have HX := Lib.hid HX
    have c0 := HX.out.1.cell 0
    have c1 := HX.out.1.cell 1
    go_wp2_with (go_at_call 19; (with_reducible refine (V1.out _).mono ?_); rintro e w1 ⟨rfl, hb2⟩; have HY := Lib.hid (HX.out.next hb2); clear hb2 c0 c1; have c0 := HY.out.1.cell 0; have d0 := HY.out.2.1.cell 0; have d1 := HY.out.2.1.cell 1; have f0 := HY.out.2.1.free 0; have f1 := HY.out.2.1.free 1)
    have HD := HY.out.done (s' := 0) (A' := none) (k := 0) (c' := 0) (hs := []) ⟨rfl, .inl ⟨rfl, rfl⟩⟩
    have q0 := HD.1.cell 0
    have q1 := HD.1.cell 1
    refine bodyPost_ret (v := .tuple #[.agg #[.int .i64 0, .slice none 0 0], .int .i64 2]) (by simp [results, Tryd.results21, go_sem, q0, q1]) rfl ?_
    unfold GivesR
    rw [HF.out]
    exact ⟨none, 0, rfl, HD.2⟩
  | true =>
    obtain ⟨s0, s1, s2⟩ := validB_ones hb.out.symm
    obtain ⟨S, rfl⟩ : ∃ S : Nat, s = S := ⟨s.toNat, by omega⟩
    have hone : Hid (n = ones S) := Lib.hid (by simpa using s2)
    have HV : Hid (validB (S : Int) hs.length = true) := Lib.hid (by rw [← hn.out]; exact hb.out.symm)
    clear s2
    by_cases h1 : size < (S : Int)
    · have HF : Hid (mergeF (S : Int) hs size p = (0, [], 2)) := Lib.hid (mergeF_no (by rintro ⟨_, h, _⟩; exact h h1))
      have d1 : decide (size < (S : Int)) = true := decide_eq_true h1
      go_enter Tryd.func21, Tryd.ntmps21
      go_upto_region 1 with fail
      refine world_gen (fun wx => ExtH w wx (S : Int) A n c) HB.out (fun wx HX => ?_)
      have HX := Lib.hid HX
      have c0 := HX.out.1.cell 0
      have c1 := HX.out.1.cell 1
      go_wp2_with (go_at_call 19; (with_reducible refine (V1.out _).mono ?_); rintro e w1 ⟨rfl, hb2⟩; have HY := Lib.hid (HX.out.next hb2); clear hb2 c0 c1; have c0 := HY.out.1.cell 0; have d0 := HY.out.2.1.cell 0; have d1 := HY.out.2.1.cell 1; have f0 := HY.out.2.1.free 0; have f1 := HY.out.2.1.free 1)
      have HD := HY.out.done (s' := 0) (A' := none) (k := 0) (c' := 0) (hs := []) ⟨rfl, .inl ⟨rfl, rfl⟩⟩
      have q0 := HD.1.cell 0
      have q1 := HD.1.cell 1
      refine bodyPost_ret (v := .tuple #[.agg #[.int .i64 0, .slice none 0 0], .int .i64 2]) (by simp [results, Tryd.results21, go_sem, q0, q1]) rfl ?_
      unfold GivesR
      rw [HF.out]
      exact ⟨none, 0, rfl, HD.2⟩
    · have d1 : decide (size < (S : Int)) = false := decide_eq_false h1
      by_cases h2 : 4096 < size
      · have HF : Hid (mergeF (S : Int) hs size p = (0, [], 2)) := Lib.hid (mergeF_no (by rintro ⟨_, _, h, _⟩; exact h h2))
        have d2 : decide (4096 < size) = true := decide_eq_true h2
        go_enter Tryd.func21, Tryd.ntmps21
        go_upto_region 1 with fail
        refine world_gen (fun wx => ExtH w wx (S : Int) A n c) HB.out (fun wx HX => ?_)
        have HX := Lib.hid HX
        have c0 := HX.out.1.cell 0
        have c1 := HX.out.1.cell 1
        go_wp2_with (go_at_call 19; (with_reducible refine (V1.out _).mono ?_); rintro e w1 ⟨rfl, hb2⟩; have HY := Lib.hid (HX.out.next hb2); clear hb2 c0 c1; have c0 := HY.out.1.cell 0; have d0 := HY.out.2.1.cell 0; have d1 := HY.out.2.1.cell 1; have f0 := HY.out.2.1.free 0; have f1 := HY.out.2.1.free 1)
        have HD := HY.out.done (s' := 0) (A' := none) (k := 0) (c' := 0) (hs := []) ⟨rfl, .inl ⟨rfl, rfl⟩⟩
        have q0 := HD.1.cell 0
        have q1 := HD.1.cell 1
        refine bodyPost_ret (v := .tuple #[.agg #[.int .i64 0, .slice none 0 0], .int .i64 2]) (by simp [results, Tryd.results21, go_sem, q0, q1]) rfl ?_
        unfold GivesR
        rw [HF.out]
        exact ⟨none, 0, rfl, HD.2⟩
      · have d2 : decide (4096 < size) = false := decide_eq_false h2
        obtain ⟨t, rfl⟩ : ∃ t : Nat, size = t := ⟨size.toNat, by omega⟩
        obtain ⟨q2, hq2⟩ : ∃ q2, Hid (q2 = (partsL S t).length) := ⟨_, Lib.hid rfl⟩
        have hq3 : q2 ≤ 4096 := by rw [hq2.out]; have := partsL_length S t; omega
        have P1 : Hid (∀ W, Calls Tryd.prog 48 #[.int .i64 (S : Int), .int .i64 (t : Int)] W fun e w' => (∃ A c, e = .returned (.slice A q2 c) ∧ IL w' w'.heap.size A (partsL S t)) ∧ Below W.heap.size W w') := Lib.hid fun W => by
          refine (refParts_any S t (by omega) (by omega) W).mono ?_
          rintro e w' ⟨⟨A, c, rfl, _, _, h⟩, hb⟩
          exact ⟨⟨A, c, by rw [hq2.out], h⟩, hb⟩
        by_cases h3 : q = q2
        · obtain ⟨R, hR⟩ : ∃ R, Hid (R = pushes (partsL S t) p S hs) := ⟨_, Lib.hid rfl⟩
          have HF : Hid (mergeF (S : Int) hs (t : Int) p = ((t : Int), R, 0)) := Lib.hid (by rw [mergeF_ok ⟨HV.out, h1, h2, by rw [← hq.out, h3, hq2.out]; rfl⟩, hR.out]; rfl)
          obtain ⟨ns, hns⟩ : ∃ ns, Hid (ns = partsL S t) := ⟨_, Lib.hid rfl⟩
          have hnl : Hid (q = ns.length) := Lib.hid (by rw [hns.out, h3, hq2.out])
          have O1 : Hid (∀ W, ExtH w W (S : Int) A n c → Calls Tryd.prog 39 #[.agg #[.int .i64 (S : Int), .slice A n c]] W fun e w' => ∃ k' A' c', e = .returned (.slice A' k' c') ∧ Below W.heap.size W w' ∧ MgL w w' (S : Int) A n c R p ns 0 S t k' c' A' hs) := Lib.hid fun W h => by
            have := refOpen_any S (by omega) hs HH.out (by rw [← hn.out]; exact hone.out) A c W (HA.out.from h.below)
            rw [← hn.out] at this
            refine this.mono ?_
            rintro e w' ⟨⟨A', c', rfl, h1, h2, h3⟩, hb⟩
            exact ⟨ones S, A', c', rfl, hb, ⟨h.next hb, h3, by rw [← hn.out]; exact hone.out, HH.out, by rw [hR.out]; rfl, by rw [hns.out]; rfl, by omega, rfl, h1, h2⟩⟩
          subst h3
          have d3 : ((q : Int) == (q : Int)) = true := by simp
          have d4 : ((q : Int) != (q : Int)) = false := by simp
          go_enter Tryd.func21, Tryd.ntmps21
          go_upto_region 1 with fail
          refine world_gen (fun wx => ExtH w wx (S : Int) A n c) HB.out (fun wx HX => ?_)
          have HX := Lib.hid HX
          have c0 := HX.out.1.cell 0
          have c1 := HX.out.1.cell 1
          go_wp2_with (first
            | (go_at_call 19; (with_reducible refine (V1.out _).mono ?_); rintro e w1 ⟨rfl, hb2⟩; have HY := Lib.hid (HX.out.next hb2); clear hb2 c0 c1; have c0 := HY.out.1.cell 0; have c1 := HY.out.1.cell 1)
            | (go_at_call 48; (with_reducible refine (P1.out _).mono ?_); rintro e w2 ⟨⟨NA, nc, rfl, hI⟩, hb2⟩; have HY2 := Lib.hid (HY.out.next hb2); have HI := Lib.hid hI; clear hb2 hI c0 c1; have c0 := HY2.out.1.cell 0; have c1 := HY2.out.1.cell 1)
            | (go_at_call 39; (with_reducible refine (O1.out _ HY2.out).mono ?_); rintro e w3 ⟨k0, A0, ca, rfl, hb3, h3⟩; have H3 := Lib.hid h3; have HB3 := Lib.hid hb3; clear h3 hb3 c0 c1))
          clear O1 V1 HX HY HB P1
          go_loopw [9, 10] (fun s9 s10 wr => ∃ (k g n' c' : Nat) (A' : Option Addr) (hs' : List (List Int)), s9 = .slice A' n' c' ∧ s10 = .int .i64 (k : Int) ∧ k ≤ q ∧ Hid (Below w2.heap.size w2 wr) ∧ Hid (MgL w wr (S : Int) A n c R p ns k g t n' c' A' hs')) (fun _ s10 _ => (q - intOf s10).toNat)
          case atStart => exact ⟨0, S, k0, ca, A0, hs, rfl, rfl, by omega, HB3, H3⟩
          case round =>
            clear H3 HB3
            obtain ⟨k, g, n', c', A', hs', rfl, rfl, hkq, HB2, HL⟩ := hrel
            by_cases hlt : k < q
            · have d5 : (k : Int) < (q : Int) := by omega
              have hkl : k < p.length := by rw [← hq.out]; exact hlt
              have hgt : g < t := by
                by_cases h : g < t
                · exact h
                · have := congrArg List.length HL.out.parts
                  rw [partsL_done g t (by omega), List.length_drop, ← hnl.out] at this
                  simp at this; omega
              have hwk : IntKind.i64.wrap (k : Int) = (k : Int) := by rw [IntKind.wrap_i64]; omega
              obtain ⟨pp, hpp⟩ : ∃ pp, Hid (pp = partN g (t - g)) := ⟨_, Lib.hid rfl⟩
              obtain ⟨j, hj, hj1, hj2, _⟩ := partN_exists g (t - g) (by omega)
              obtain ⟨Q, hQ⟩ : ∃ Q, g = Q * 2 ^ j := ⟨g / 2 ^ j, by rw [Nat.mul_comm]; have := Nat.div_add_mod g (2 ^ j); omega⟩
              have hpj : pp = 2 ^ j := by rw [hpp.out, hj]
              have hgp : g / pp = Q := by rw [hpj, hQ, Nat.mul_div_cancel _ (Nat.two_pow_pos j)]
              have hgs : g + pp = (Q + 1) * 2 ^ j := by rw [hQ, hpj, Nat.add_mul, Nat.one_mul]
              have hoQ : hs'.length = ones Q := by rw [HL.out.len, hQ, ones_shift]
              have hpt : g + pp ≤ t := by rw [hpj]; omega
              obtain ⟨pd, rfl⟩ := HP.out.some k hkl
              obtain ⟨hk1, hk2, hk3⟩ := drop_one (HL.out.parts.trans (partsL_more g t hgt))
              obtain ⟨nd, rfl⟩ := HI.out.some k (by rw [← hns.out]; exact hk1)
              obtain ⟨x, hx⟩ : ∃ x, Hid (x = p.getD k []) := ⟨_, Lib.hid rfl⟩
              obtain ⟨X, hX⟩ : ∃ X, Hid (X = nums .u8 x) := ⟨_, Lib.hid rfl⟩
              have hx32 : Hid (x.length = 32 ∧ bytes x) := Lib.hid (by rw [hx.out]; exact hashes_at HHp.out k hkl)
              have zX : Hid (X.size = 32) := Lib.hid (by rw [hX.out, nums_size]; exact hx32.out.1)
              obtain ⟨ts, hts⟩ : ∃ ts, Hid (ts = trs 0 g hs') := ⟨_, Lib.hid rfl⟩
              obtain ⟨h9, hh9⟩ : ∃ h9, Hid (h9 = carry (g / pp) hs' x) := ⟨_, Lib.hid rfl⟩
              have tl1 : Hid (ts.length = n') := Lib.hid (by rw [hts.out, trs_length 0 g hs' HL.out.len, HL.out.ln])
              have hn13 : n' ≤ 13 := by rw [HL.out.ln]; exact ones_le 13 g (by omega)
              have tok : Hid (okT ts) := Lib.hid (by rw [hts.out]; exact trs_okT _ _ _ HL.out.hh)
              have tx : Hid (okT [(pp, x)]) := Lib.hid (okT.one hx32.out)
              have h9l : Hid (h9.length = ones (g + pp)) := Lib.hid (by rw [hh9.out, hgp, hgs, ones_shift]; exact carry_length Q hs' x hoQ)
              have HJ : Hid (joinP (ts ++ [(pp, x)]) = trs 0 (g + pp) h9) := Lib.hid (by
                have := joinP_trs j Q hs' x hoQ
                rw [← hQ, ← hpj] at this
                rw [hts.out, this, hh9.out, hgp])
              have HJl : Hid ((joinP (ts ++ [(pp, x)])).length = ones (g + pp)) := Lib.hid (by rw [HJ.out]; exact trs_length 0 _ _ h9l.out)
              have HSM : Hid (((ts ++ [(pp, x)]).map Prod.fst).sum ≤ 8192 ∧ (ts ++ [(pp, x)]).length ≤ 4096 ∧ (ts ++ [(pp, x)]).length = n' + 1) := Lib.hid (by
                refine ⟨?_, ?_, ?_⟩
                · rw [List.map_append, List.sum_append, hts.out, trs_sum g hs' HL.out.len]
                  show g + (pp + 0) ≤ 8192; omega
                · rw [List.length_append, tl1.out]; show n' + 1 ≤ 4096; omega
                · rw [List.length_append, tl1.out]; rfl)
              have RX : Hid (∀ W, Below wr.heap.size wr W → (readAt (.pointer (some (pd.add (k * 32))))).run Tryd.prog W = .ok (.agg X) W) := Lib.hid fun W hW => by
                rw [hX.out, hx.out]; exact (HP.out.next (below_new HL.out.ext.below hW) (Nat.le_refl _)).read HHp.out k hkl
              have CC : Hid (∀ W, Below wr.heap.size wr W → W.cell? (nd.add k) = some (.int .i64 (pp : Int))) := Lib.hid fun W hW => by
                rw [hpp.out, ← hk2, hns.out]; exact (HI.out.next (below_new HB2.out hW) (Nat.le_refl _)).at k (by rw [← hns.out]; exact hk1)
              have TT : Hid (∀ W, Below wr.heap.size wr W → TL W A' ts) := Lib.hid fun W hW => by rw [hts.out]; exact HL.out.tl.from hW
              have J1 : Hid (∀ W A3 c3, TL W A3 (ts ++ [(pp, x)]) → n' + 1 ≤ c3 → c3 ≤ maxLen → Calls Tryd.prog 40 #[.slice A3 (n' + 1) c3] W fun e w' => (∃ A4 c4, e = .returned (.slice A4 (ones (g + pp)) c4) ∧ ones (g + pp) ≤ c4 ∧ c4 ≤ maxLen ∧ TL w' A4 (trs 0 (g + pp) h9)) ∧ Below W.heap.size W w') := Lib.hid fun W A3 c3 h1 h2 h3 => by
                have := refJoin_any (ts ++ [(pp, x)]) A3 c3 W (tok.out.app tx.out) h1 HSM.out.1 HSM.out.2.1 (by rw [HSM.out.2.2]; exact h2) h3
                rw [HSM.out.2.2, HJl.out, HJ.out] at this
                exact this
              have HNX : Hid (pushes (partsL (g + pp) t) (p.drop (k + 1)) (g + pp) h9 = R ∧ h9.length = ones (g + pp) ∧ hashes h9 ∧ ns.drop (k + 1) = partsL (g + pp) t ∧ g + pp ≤ t) := Lib.hid ⟨by
                have := HL.out.res
                rw [partsL_more g t hgt, List.drop_eq_getElem_cons hkl, ← hpp.out] at this
                rw [← this, hh9.out, hx.out, List.getD_eq_getElem?_getD, List.getElem?_eq_getElem hkl]; rfl, h9l.out, by rw [hh9.out]; exact carry_hashes _ hs' x HL.out.hh hx32.out, by rw [hk3, ← hpp.out], hpt⟩
              have hsm1 : Hid (n' ≤ 8192) := Lib.hid (by omega)
              have hsm2 : Hid (ts.length + 1 ≤ 8192) := Lib.hid (by rw [tl1.out]; omega)
              have d8 : (k : Int) < (q : Int) := d5
              clear hkl hQ hpj hgp hgs hoQ hk1 hk2 hk3 hj hj1 hj2
              go_upto_region 10 with fail
              refine wp_region_fk (Below wr.heap.size wr) (.get 0 (.get 2 (.get 3 (.get 4 (.get 5 (.get 6 (.get 7 (.get 8 (.get 9 (.get 10 (.fork 1 11 (.call 11 (.call 12 (.call 13 (.get 14 .done)))) (.call 1 (.call 12 (.call 13 (.get 14 .done))))))))))))))) (by kernel_rfl) rfl (by kernel_rfl) (by kernel_rfl) (by intro c a d v w h; cases d <;> exact h) (Below.refl wr.heap.size wr).drew (fun Q' hQ => ?_)
              have HS := Lib.hid (Below.refl wr.heap.size wr).drew
              have HQ := Lib.hid hQ
              clear hQ
              refine wpFk_get rfl (by rfl) (fun K hK => ?_)
              refine ⟨?_, fun w' hS' => ?_, ?_⟩
              rotate_left
              · go_simp
                try (with_reducible rfl)
              try go_simp
              refine hK _ ?_
              clear hK K
              refine wpFk_get rfl (by rfl) (fun K hK => ?_)
              refine ⟨?_, fun w' hS' => ?_, ?_⟩
              rotate_left
              · go_simp
                try (with_reducible rfl)
              try go_simp
              refine hK _ ?_
              clear hK K
              refine wpFk_get rfl (by rfl) (fun K hK => ?_)
              refine ⟨?_, fun w' hS' => ?_, ?_⟩
              rotate_left
              · go_simp
                try (with_reducible rfl)
              try go_simp
              refine hK _ ?_
              clear hK K
              refine wpFk_get rfl (by rfl) (fun K hK => ?_)
              refine ⟨?_, fun w' hS' => ?_, ?_⟩
              rotate_left
              · go_simp
                try (with_reducible rfl)
              try go_simp
              refine hK _ ?_
              clear hK K
              refine wpFk_get rfl (by rfl) (fun K hK => ?_)
              refine ⟨?_, fun w' hS' => ?_, ?_⟩
              rotate_left
              · have c9 : w'.cell? (nd.add k) = some (.int .i64 (pp : Int)) := CC.out _ hS'
                go_simp
                try (with_reducible rfl)
              try go_simp
              refine hK _ ?_
              clear hK K
              refine wpFk_get rfl (by rfl) (fun K hK => ?_)
              refine ⟨?_, fun w' hS' => ?_, ?_⟩
              rotate_left
              · go_simp
                try (with_reducible rfl)
              try go_simp
              refine hK _ ?_
              clear hK K
              refine wpFk_get rfl (by rfl) (fun K hK => ?_)
              refine ⟨?_, fun w' hS' => ?_, ?_⟩
              rotate_left
              · go_simp
                try (with_reducible rfl)
              try go_simp
              refine hK _ ?_
              clear hK K
              refine wpFk_get rfl (by rfl) (fun K hK => ?_)
              refine ⟨?_, fun w' hS' => ?_, ?_⟩
              rotate_left
              · go_simp
                try (with_reducible rfl)
              try go_simp
              refine hK _ ?_
              clear hK K
              refine wpFk_get rfl (by rfl) (fun K hK => ?_)
              refine ⟨_, fun w' hS' => get_load rfl rfl (RX.out _ hS'), ?_⟩
              try go_simp
              refine hK _ ?_
              clear hK K
              refine wpFk_get rfl (by rfl) (fun K hK => ?_)
              refine ⟨_, fun w' hS' => get_buildT rfl rfl rfl zX.out, ?_⟩
              try go_simp
              refine hK _ ?_
              clear hK K
              refine wpFk_fork ?_ ?_
              · refine wpFk_call rfl (by rfl) (fun K hK => ?_)
                refine wp_appendTC (.const (.slice none 0 0)) (.tmp 43) rfl wr.heap.size ts rfl A' n' c' rfl tl1.out.symm tok.out (TT.out _ HS.out) hsm1.out HS.out.size ?_
                intro v1 w4 ho hg
                have HO : Hid (ownT w4 wr.heap.size v1 ts) := Lib.hid ho
                replace HS := Lib.hid (HS.out.grown hg HS.out.size (by intro k hk; simp at hk))
                clear ho hg
                try go_simp
                refine hK _ _ HS.out ?_
                clear hK K
                refine wpFk_call rfl (by rfl) (fun K hK => ?_)
                refine wp_buildTree (.tmp 53) rfl (treeV pp X) rfl (treeV_size _ _ zX.out) ?_
                intro w6 hr hb
                have HRt := Lib.hid hr
                replace HO : Hid (ownT w6 wr.heap.size v1 ts) := Lib.hid (own_below HO.out hb)
                replace HS := Lib.hid (below_new HS.out hb)
                clear hr hb
                try go_simp
                refine hK _ _ HS.out ?_
                clear hK K
                refine wpFk_call rfl (by rfl) (fun K hK => ?_)
                refine wp_appendT (.tmp 44) (.tmp 54) rfl wr.heap.size v1 ts [(pp, x)] rfl HO.out _ 1 1 rfl rfl tx.out (TL.row (by rw [← hX.out]; exact HRt.out)) hsm2.out HS.out.size ?_
                intro v2 w7 ho hg
                replace HS := Lib.hid (HS.out.grown hg HS.out.size (fun k hk => (HO.out.lt k hk).1))
                obtain ⟨A2, c2, hv2, hc2, hm2, htl⟩ := ho.lead
                rw [HSM.out.2.2] at hv2 hc2
                subst hv2
                have HTL := Lib.hid (And.intro hc2 (And.intro hm2 htl))
                clear ho hg hc2 hm2 htl
                try go_simp
                refine hK _ _ HS.out ?_
                clear hK K
                refine wpFk_call rfl (by rfl) (fun K hK => ?_)
                go_simp
                go_at_call 40
                refine (J1.out _ _ _ HTL.out.2.2 HTL.out.1 HTL.out.2.1).mono ?_
                rintro e w8 ⟨⟨A4, c4, rfl, h1, h2, h3⟩, hb⟩
                have HT4 := Lib.hid (And.intro h1 (And.intro h2 h3))
                replace HS := Lib.hid (below_new HS.out hb)
                clear h1 h2 h3 hb
                refine hK _ _ HS.out ?_
                clear hK K
                refine wpFk_get rfl (by rfl) (fun K hK => ?_)
                refine ⟨?_, fun w' hS' => ?_, ?_⟩
                rotate_left
                · go_simp
                  try (with_reducible rfl)
                try go_simp
                refine hK _ ?_
                clear hK K
                refine wpFk_done ?_
                refine HQ.out _ _ ?_
                go_wp2
                go_roundw
                case rel => exact ⟨k + 1, g + pp, ones (g + pp), c4, A4, h9, rfl, by go_num, by omega, Lib.hid (below_new HB2.out HS.out), Lib.hid ⟨HL.out.ext.next HS.out, HT4.out.2.2, HNX.out.2.1, HNX.out.2.2.1, HNX.out.1, HNX.out.2.2.2.1, HNX.out.2.2.2.2, rfl, HT4.out.1, HT4.out.2.1⟩⟩
                case measure => simp [intOf]; omega
              · refine wpFk_call rfl (by rfl) (fun K hK => ?_)
                refine wp_buildTree (.tmp 53) rfl (treeV pp X) rfl (treeV_size _ _ zX.out) ?_
                intro w6 hr hb
                have HRt := Lib.hid hr
                replace HS := Lib.hid (below_new HS.out hb)
                clear hr hb
                try go_simp
                refine hK _ _ HS.out ?_
                clear hK K
                refine wpFk_call rfl (by rfl) (fun K hK => ?_)
                refine wp_appendTC (.const (.slice none 0 0)) (.tmp 43) rfl wr.heap.size ts rfl A' n' c' rfl tl1.out.symm tok.out (TT.out _ HS.out) hsm1.out HS.out.size ?_
                intro v1 w4 ho hg
                have HO : Hid (ownT w4 wr.heap.size v1 ts) := Lib.hid ho
                replace HRt := Lib.hid (HRt.out.grown hg (by simp))
                replace HS := Lib.hid (HS.out.grown hg HS.out.size (by intro k hk; simp at hk))
                clear ho hg
                try go_simp
                refine hK _ _ HS.out ?_
                clear hK K
                refine wpFk_call rfl (by rfl) (fun K hK => ?_)
                refine wp_appendT (.tmp 44) (.tmp 54) rfl wr.heap.size v1 ts [(pp, x)] rfl HO.out _ 1 1 rfl rfl tx.out (TL.row (by rw [← hX.out]; exact HRt.out)) hsm2.out HS.out.size ?_
                intro v2 w7 ho hg
                replace HS := Lib.hid (HS.out.grown hg HS.out.size (fun k hk => (HO.out.lt k hk).1))
                obtain ⟨A2, c2, hv2, hc2, hm2, htl⟩ := ho.lead
                rw [HSM.out.2.2] at hv2 hc2
                subst hv2
                have HTL := Lib.hid (And.intro hc2 (And.intro hm2 htl))
                clear ho hg hc2 hm2 htl
                try go_simp
                refine hK _ _ HS.out ?_
                clear hK K
                refine wpFk_call rfl (by rfl) (fun K hK => ?_)
                go_simp
                go_at_call 40
                refine (J1.out _ _ _ HTL.out.2.2 HTL.out.1 HTL.out.2.1).mono ?_
                rintro e w8 ⟨⟨A4, c4, rfl, h1, h2, h3⟩, hb⟩
                have HT4 := Lib.hid (And.intro h1 (And.intro h2 h3))
                replace HS := Lib.hid (below_new HS.out hb)
                clear h1 h2 h3 hb
                refine hK _ _ HS.out ?_
                clear hK K
                refine wpFk_get rfl (by rfl) (fun K hK => ?_)
                refine ⟨?_, fun w' hS' => ?_, ?_⟩
                rotate_left
                · go_simp
                  try (with_reducible rfl)
                try go_simp
                refine hK _ ?_
                clear hK K
                refine wpFk_done ?_
                refine HQ.out _ _ ?_
                go_wp2
                go_roundw
                case rel => exact ⟨k + 1, g + pp, ones (g + pp), c4, A4, h9, rfl, by go_num, by omega, Lib.hid (below_new HB2.out HS.out), Lib.hid ⟨HL.out.ext.next HS.out, HT4.out.2.2, HNX.out.2.1, HNX.out.2.2.1, HNX.out.1, HNX.out.2.2.2.1, HNX.out.2.2.2.2, rfl, HT4.out.1, HT4.out.2.1⟩⟩
                case measure => simp [intOf]; omega
            · have hkm2 : k = q := by omega
              have hPn : partsL g t = [] := by rw [← HL.out.parts, List.drop_of_length_le (by rw [← hnl.out]; omega)]
              have hgt : g = t := by
                have h8 := HL.out.le
                by_cases h : g < t
                · rw [partsL_more g t h] at hPn; cases hPn
                · omega
              have HD : Hid (hs' = R) := Lib.hid (by
                have := HL.out.res
                rw [hPn, pushes_nil] at this
                exact this)
              subst hgt
              obtain ⟨q9, hq9⟩ : ∃ q9, Hid (q9 = R.length) := ⟨_, Lib.hid rfl⟩
              have hqn : q9 = n' := by rw [hq9.out, ← HD.out, HL.out.len, HL.out.ln]
              have K1 : Hid (Calls Tryd.prog 41 #[.slice A' n' c'] wr fun e w' => ∃ A9 c9, e = .returned (.agg #[.int .i64 (g : Int), .slice A9 q9 c9]) ∧ OwnL wr w' (.slice A9 q9 c9) q9 R) := Lib.hid (by
                have hlen := HL.out.len
                have := refClose_any (trs 0 g hs') A' c' wr (trs_okT _ _ _ HL.out.hh) HL.out.tl (by rw [trs_sum g hs' hlen]; omega) (by rw [trs_length 0 g hs' hlen]; have := ones_le 13 g (by omega); omega) (by rw [trs_length 0 g hs' hlen, ← HL.out.ln]; exact HL.out.c1)
                rw [trs_sum g hs' hlen, trs_length 0 g hs' hlen, trs_hashes 0 g hs' hlen, ← HL.out.ln, ← hqn, HD.out] at this
                rw [← hqn]
                exact this)
              have HE := Lib.hid HL.out.ext
              clear hqn HL hPn
              go_wp2_with (go_at_call 41; (with_reducible refine K1.out.mono ?_); rintro e w4 ⟨A9, c9, rfl, ho⟩; have HZ := Lib.hid (HE.out.next ho.2); have HO := Lib.hid ho; clear ho; have d0 := HZ.out.2.1.cell 0; have d1 := HZ.out.2.1.cell 1; have f0 := HZ.out.2.1.free 0; have f1 := HZ.out.2.1.free 1)
              have HD2 := HZ.out.done (s' := (g : Int)) (own_base HO.out.1 (by have h1 := HE.out.2.1.lt; omega))
              have q0 := HD2.1.cell 0
              have q1 := HD2.1.cell 1
              refine bodyPost_ret (v := .tuple #[.agg #[.int .i64 (g : Int), .slice A9 q9 c9], .int .i64 0]) (by simp [results, Tryd.results21, go_sem, q0, q1]) rfl ?_
              unfold GivesR
              rw [HF.out]
              exact ⟨A9, c9, by rw [← hq9.out], by rw [← hq9.out]; exact HD2.2⟩
        · have HF : Hid (mergeF (S : Int) hs (t : Int) p = (0, [], 2)) := Lib.hid (mergeF_no (by rintro ⟨_, _, _, h⟩; exact h3 (by rw [hq.out, hq2.out]; exact h)))
          have d3 : ((q : Int) == (q2 : Int)) = false := by simp; omega
          have d4 : ((q : Int) != (q2 : Int)) = true := by simp; omega
          go_enter Tryd.func21, Tryd.ntmps21
          go_upto_region 1 with fail
          refine world_gen (fun wx => ExtH w wx (S : Int) A n c) HB.out (fun wx HX => ?_)
          have HX := Lib.hid HX
          have c0 := HX.out.1.cell 0
          have c1 := HX.out.1.cell 1
          go_wp2_with (first | (go_at_call 19; (with_reducible refine (V1.out _).mono ?_); rintro e w1 ⟨rfl, hb2⟩; have HY := Lib.hid (HX.out.next hb2); clear hb2 c0 c1; have c0 := HY.out.1.cell 0; have d0 := HY.out.2.1.cell 0; have d1 := HY.out.2.1.cell 1; have f0 := HY.out.2.1.free 0; have f1 := HY.out.2.1.free 1) | (go_at_call 48; (with_reducible refine (P1.out _).mono ?_); rintro e w2 ⟨⟨PA2, pc2, rfl, _⟩, hb2⟩; have HY := Lib.hid (HY.out.next hb2); clear hb2 c0 d0 d1 f0 f1; have d0 := HY.out.2.1.cell 0; have d1 := HY.out.2.1.cell 1; have f0 := HY.out.2.1.free 0; have f1 := HY.out.2.1.free 1))
          have HD := HY.out.done (s' := 0) (A' := none) (k := 0) (c' := 0) (hs := []) ⟨rfl, .inl ⟨rfl, rfl⟩⟩
          have q0 := HD.1.cell 0
          have q1 := HD.1.cell 1
          refine bodyPost_ret (v := .tuple #[.agg #[.int .i64 0, .slice none 0 0], .int .i64 2]) (by simp [results, Tryd.results21, go_sem, q0, q1]) rfl ?_
          unfold GivesR
          rw [HF.out]
          exact ⟨none, 0, rfl, HD.2⟩
end Go.Proofs.YtfakimbneenfdaaDoor
namespace Go.Proofs.YtfakimbneenfdaaDoor
open Go.RowKit
set_option linter.unusedVariables false
set_option maxRecDepth 100000

theorem rootFold_drop (hs : List (List Int)) (k : Nat) (h : k + 1 < hs.length) : rootFold (hs.drop k) = nodeL (hs.getD k []) (rootFold (hs.drop (k + 1))) := by
  rw [List.drop_eq_getElem_cons (by omega), List.drop_eq_getElem_cons h, List.getD_eq_getElem?_getD, List.getElem?_eq_getElem (by omega)]
  rfl
theorem rootFold_last (hs : List (List Int)) (m : Nat) (h : m + 1 = hs.length) : rootFold (hs.drop m) = hs.getD m [] := by
  rw [List.drop_eq_getElem_cons (by omega), List.drop_of_length_le (by omega), List.getD_eq_getElem?_getD, List.getElem?_eq_getElem (by omega)]
  rfl
attribute [local go_sem ↓ high] read_at write_at
set_option maxHeartbeats 4000000 in
theorem refRRoot_few (w : World) (s : Int) (A : Option Addr) (c : Nat) (hs : List (List Int)) (h0 : validB s hs.length = false ∨ s = 0 ∧ hs = []) :
    Calls Tryd.prog 16 #[.agg #[.int .i64 s, .slice A hs.length c]] w (GivesH w (rootF s hs)) := by
  obtain ⟨n, hn⟩ : ∃ n, Hid (n = hs.length) := ⟨_, Lib.hid rfl⟩
  rw [← hn.out] at h0 ⊢
  have HB := Lib.hid (RootH.start w s A n c)
  have zZ : Hid ((nums .u8 (List.replicate 32 0)).size = 32) := Lib.hid (by rw [nums_size]; simp)
  have hZ := sizeH _ zZ.out
  have oZ : Hid ((nums .u8 (List.replicate 32 0)).all (·.oneCell') = true) := Lib.hid (nums_one _ _)
  rcases h0 with hv | ⟨rfl, rfl⟩
  · have V1 : Hid (∀ W, Calls Tryd.prog 19 #[.agg #[.int .i64 s, .slice A n c]] W fun e w' => e = .returned (.bool false) ∧ Below W.heap.size W w') := Lib.hid fun W => by
      rw [← hv]; exact refValid_any s A n c W
    have HF : Hid (rootF s hs = (zero32, 2)) := Lib.hid (rootF_no (by rw [← hn.out]; exact hv))
    clear hv
    go_enter Tryd.func16, Tryd.ntmps16
    go_upto_region 1 with fail
    refine world_gen (fun wx => RootH w wx s A n c) HB.out (fun wx HX => ?_)
    have HX := Lib.hid HX
    have c0 := HX.out.rg.cell 0
    have c1 := HX.out.rg.cell 1
    go_wp2_with (first
      | (go_at_call 19; (with_reducible refine (V1.out _).mono ?_); rintro e w1 ⟨rfl, hb2⟩; have HY := Lib.hid (HX.out.next hb2); clear hb2 c0 c1)
      | (refine wpList_store_row rfl 31 _ _ rfl (w.heap.size + 1) (nums .u8 (List.replicate 32 0)) rfl rfl 31 _ HY.out.out hZ (by rw [zZ.out]) oZ.out ?_))
    refine bodyPost_ret (results_row2 rfl _ _ (w.heap.size + 1) 31 _ (0, 0) _ rfl (HY.out.out.whole _) Tryd.underlying31 rfl hZ _ rfl) rfl ?_
    unfold GivesH
    rw [HF.out]
    exact ⟨rfl, below_setRow HY.out.below (by omega)⟩
  · have hn0 : n = 0 := hn.out
    subst hn0
    have V1 : Hid (∀ W, Calls Tryd.prog 19 #[.agg #[.int .i64 0, .slice A 0 c]] W fun e w' => e = .returned (.bool true) ∧ Below W.heap.size W w') := Lib.hid fun W => by
      have := refValid_any 0 A 0 c W
      rwa [validB_yes ⟨by decide, by decide, by rw [show (0 : Int).toNat = 0 from rfl, ones_zero]⟩] at this
    have HF : Hid (rootF 0 [] = (sumL ⟨#[]⟩, 0)) := Lib.hid (rootF_ok (validB_yes ⟨by decide, by decide, by rw [show (0 : Int).toNat = 0 from rfl, ones_zero]; rfl⟩))
    obtain ⟨C, hC⟩ : ∃ C, Hid (C = nums .u8 (sumL ⟨#[]⟩)) := ⟨_, Lib.hid rfl⟩
    have zC : Hid (C.size = 32) := Lib.hid (by rw [hC.out, nums_size]; exact sumL_length _)
    have oC : Hid (C.all (·.oneCell') = true) := Lib.hid (by rw [hC.out]; exact nums_one _ _)
    have hC6 := sizeH _ zC.out
    have T1 : Hid (∀ W, Calls Tryd.prog 43 #[.string ⟨#[]⟩] W fun ev w' => ev = .returned (.agg C) ∧ Below W.heap.size W w') := Lib.hid fun W => by
      rw [hC.out]; exact refSum_any ⟨#[]⟩ (by decide) W
    go_enter Tryd.func16, Tryd.ntmps16
    go_upto_region 1 with fail
    refine world_gen (fun wx => RootH w wx 0 A 0 c) HB.out (fun wx HX => ?_)
    have HX := Lib.hid HX
    have c0 := HX.out.rg.cell 0
    have c1 := HX.out.rg.cell 1
    go_wp2_with (first
      | (go_at_call 19; (with_reducible refine (V1.out _).mono ?_); rintro e w1 ⟨rfl, hb2⟩; have HY := Lib.hid (HX.out.next hb2); clear hb2 c0 c1; have c0 := HY.out.rg.cell 0; have c1 := HY.out.rg.cell 1; have HBY := Lib.hid HY.out.below)
      | (go_at_call 43; (with_reducible refine (T1.out _).mono ?_); rintro e w2 ⟨rfl, hb2⟩; have HZ := Lib.hid (HY.out.next hb2); clear hb2 c0 c1)
      | (refine wpList_store_row rfl 31 _ _ rfl (w.heap.size + 1) C rfl rfl 31 _ HZ.out.out hC6 (by rw [zC.out, zZ.out]) oC.out ?_))
    refine bodyPost_ret (results_row2 rfl _ _ (w.heap.size + 1) 31 _ (0, 0) _ rfl (HZ.out.out.whole _) Tryd.underlying31 rfl hC6 _ rfl) rfl ?_
    unfold GivesH
    rw [HF.out]
    exact ⟨by rw [hC.out]; rfl, below_setRow HZ.out.below (by omega)⟩

set_option maxHeartbeats 4000000 in
theorem refRRoot_more (w : World) (s : Int) (A : Option Addr) (c : Nat) (hs : List (List Int)) (hh : hashes hs) (hA : HL w w.heap.size A hs) (hv : validB s hs.length = true) (hs0 : 0 < hs.length) :
    Calls Tryd.prog 16 #[.agg #[.int .i64 s, .slice A hs.length c]] w (GivesH w (rootF s hs)) := by
  obtain ⟨v0, v1, v2⟩ := validB_ones hv
  obtain ⟨n, hn⟩ : ∃ n, Hid (n = hs.length) := ⟨_, Lib.hid rfl⟩
  have hn13 : n ≤ 13 := by rw [hn.out, v2]; exact ones_le 13 _ (by omega)
  obtain ⟨m, hm⟩ : ∃ m, Hid (n = m + 1) := ⟨n - 1, Lib.hid (by have := hn.out; omega)⟩
  have hmn : m < hs.length := by rw [← hn.out]; have := hm.out; omega
  rw [← hn.out]
  have hm2 := hm.out
  have e0 : (n : Int) - 1 = (m : Int) := by omega
  have e1 : (n : Int) - 2 = (m : Int) - 1 := by omega
  have hw0 : IntKind.i64.wrap (m : Int) = (m : Int) := by rw [IntKind.wrap_i64]; omega
  have hw1 : IntKind.i64.wrap ((m : Int) - 1) = (m : Int) - 1 := by rw [IntKind.wrap_i64]; omega
  have b1 : (m : Int) < (n : Int) := by omega
  have d0 : ((n : Int) == 0) = false := by simp; omega
  have hm12 : m ≤ 12 := by omega
  clear hm2
  obtain ⟨ad, rfl⟩ := hA.some m hmn
  have HB := Lib.hid (RootH.start w s (some ad) n c)
  have zZ : Hid ((nums .u8 (List.replicate 32 0)).size = 32) := Lib.hid (by rw [nums_size]; simp)
  have V1 : Hid (∀ W, Calls Tryd.prog 19 #[.agg #[.int .i64 s, .slice (some ad) n c]] W fun e w' => e = .returned (.bool true) ∧ Below W.heap.size W w') := Lib.hid fun W => by
    have := refValid_any s (some ad) n c W
    rwa [hn.out, hv, ← hn.out] at this
  have HF : Hid (rootF s hs = (rootFold hs, 0)) := Lib.hid (rootF_ok hv)
  obtain ⟨L, hL⟩ : ∃ L, Hid (L = nums .u8 (hs.getD m [])) := ⟨_, Lib.hid rfl⟩
  have zL : Hid (L.size = 32) := Lib.hid (by rw [hL.out, nums_size]; exact (hashes_at hh m hmn).1)
  have oL : Hid (L.all (·.oneCell') = true) := Lib.hid (by rw [hL.out]; exact nums_one _ _)
  have SL : Hid (∀ (i : Nat) W, i < hs.length → Below w.heap.size w W → (readAt (.pointer (some (ad.add (i * 32))))).run Tryd.prog W = .ok (.agg (nums .u8 (hs.getD i []))) W) := Lib.hid fun i W hi hW => (hA.next hW (Nat.le_refl _)).read hh i hi
  have SM : Hid (∀ W, Below w.heap.size w W → (readAt (.pointer (some (ad.add (m * 32))))).run Tryd.prog W = .ok (.agg L) W) := Lib.hid fun W hW => by
    rw [hL.out]; exact SL.out m W hmn hW
  have HH := Lib.hid hh
  have HMN := Lib.hid hmn
  clear hA hh hv hs0 hmn v2 v0 v1
  go_enter Tryd.func16, Tryd.ntmps16
  go_upto_region 1 with fail
  refine world_gen (fun wx => RootH w wx s (some ad) n c) HB.out (fun wx HX => ?_)
  have HX := Lib.hid HX
  have c0 := HX.out.rg.cell 0
  have c1 := HX.out.rg.cell 1
  go_wp2_with (go_at_call 19; (with_reducible refine (V1.out _).mono ?_); rintro e w1 ⟨rfl, hb2⟩; have HY := Lib.hid (HX.out.next hb2); clear hb2 c0 c1; have c0 := HY.out.rg.cell 0; have c1 := HY.out.rg.cell 1; have s1 := SM.out _ HY.out.below; obtain ⟨w2, s2, hr2, hb2, hz2⟩ := made_write w1 L zL.out oL.out; have HR2 := Lib.hid hr2; have HY2 := Lib.hid (HY.out.next hb2); have HG2 := Lib.hid HY.out.out.lt; clear hr2 hb2 hz2)
  go_loopw [6] (fun s6 wr => ∃ k : Nat, s6 = .int .i64 ((k : Int) - 1) ∧ k ≤ m ∧ Hid (Row wr w1.heap.size 31 (nums .u8 (rootFold (hs.drop k))) ∧ RootH w wr s (some ad) n c)) (fun s6 _ => (intOf s6 + 1).toNat)
  case atStart => exact ⟨m, rfl, Nat.le_refl _, Lib.hid ⟨by rw [rootFold_last hs m (by rw [← hn.out, hm.out]), ← hL.out]; exact HR2.out, HY2.out⟩⟩
  case round =>
    clear HR2 HY2
    obtain ⟨k, rfl, hk, HQ⟩ := hrel
    by_cases h0 : k = 0
    · subst h0
      obtain ⟨Z, hZ⟩ : ∃ Z, Hid (Z = nums .u8 (rootFold hs)) := ⟨_, Lib.hid rfl⟩
      have hrl := rootFold_is hs HH.out
      have zZ' : Hid (Z.size = 32) := Lib.hid (by rw [hZ.out, nums_size]; exact hrl.1)
      have oZ : Hid (Z.all (·.oneCell') = true) := Lib.hid (by rw [hZ.out]; exact nums_one _ _)
      have h5 : Row wr w1.heap.size 31 Z := by have := HQ.out.1; rw [List.drop_zero, ← hZ.out] at this; exact this
      have s5 := h5.read zZ'.out
      have s6 := HQ.out.2.out.write zZ.out zZ'.out oZ.out
      clear hrl h5
      go_wp2
      refine bodyPost_ret (results_row2 rfl _ _ (w.heap.size + 1) 31 _ (0, 0) _ rfl (HQ.out.2.out.whole Z) Tryd.underlying31 rfl (sizeH _ zZ'.out) _ rfl) rfl ?_
      unfold GivesH
      rw [HF.out]
      exact ⟨by rw [hZ.out]; rfl, below_setRow HQ.out.2.below (by omega)⟩
    · obtain ⟨i, hi⟩ : ∃ i, Hid (k = i + 1) := ⟨k - 1, Lib.hid (by omega)⟩
      have hi2 := hi.out
      have e3 : (k : Int) - 1 = (i : Int) := by omega
      have hw3 : IntKind.i64.wrap (i : Int) = (i : Int) := by rw [IntKind.wrap_i64]; omega
      have hw4 : IntKind.i64.wrap ((i : Int) - 1) = (i : Int) - 1 := by rw [IntKind.wrap_i64]; omega
      have bi : (i : Int) < (n : Int) := by omega
      have him : i < hs.length := by have := HMN.out; omega
      have hik : i ≤ m := by omega
      have hxi := hashes_at HH.out i him
      have hyi := rootFold_is (hs.drop k) (hashes_drop HH.out k)
      clear hi2
      obtain ⟨N, hN⟩ : ∃ N, Hid (N = nums .u8 (hs.getD i [])) := ⟨_, Lib.hid rfl⟩
      obtain ⟨Y, hY⟩ : ∃ Y, Hid (Y = nums .u8 (rootFold (hs.drop k))) := ⟨_, Lib.hid rfl⟩
      obtain ⟨Z, hZ⟩ : ∃ Z, Hid (Z = nums .u8 (rootFold (hs.drop i))) := ⟨_, Lib.hid rfl⟩
      have hrz := rootFold_is (hs.drop i) (hashes_drop HH.out i)
      have X3 : Hid (∀ W, Calls Tryd.prog 44 #[.agg N, .agg Y] W fun ev w' => ev = .returned (.agg Z) ∧ Below W.heap.size W w') := Lib.hid fun W => by
        rw [hN.out, hY.out, hZ.out, rootFold_drop hs i (by have := HMN.out; have := hi.out; omega), ← hi.out]
        exact refNode_any _ _ hxi.1 hyi.1 W
      have zY : Hid (Y.size = 32) := Lib.hid (by rw [hY.out, nums_size]; exact hyi.1)
      have zZ' : Hid (Z.size = 32) := Lib.hid (by rw [hZ.out, nums_size]; exact hrz.1)
      have oZ : Hid (Z.all (·.oneCell') = true) := Lib.hid (by rw [hZ.out]; exact nums_one _ _)
      have HQ2 : Hid (Row wr.drew w1.heap.size 31 Y ∧ RootH w wr.drew s (some ad) n c) := Lib.hid ⟨by rw [hY.out]; exact HQ.out.1.drew, HQ.out.2.next ((Below.refl wr.heap.size wr).drew)⟩
      have s1 : (readAt (.pointer (some (ad.add (i * 32))))).run Tryd.prog wr.drew = .ok (.agg N) wr.drew := by rw [hN.out]; exact SL.out i _ him HQ2.out.2.below
      have s5 := HQ2.out.1.read zY.out
      have c0 := HQ2.out.2.rg.cell 0
      have c1 := HQ2.out.2.rg.cell 1
      clear hxi hyi hrz him HQ
      go_upto_region 10 with fail
      go_region_with (go_at_call 44; (with_reducible refine (X3.out _).mono ?_); rintro e w4 ⟨rfl, hb⟩; have HQ4 := Lib.hid (And.intro (HQ2.out.1.next hb) (HQ2.out.2.next hb)); clear hb s1 s5 c0 c1; have s3 := HQ4.out.1.write zY.out zZ'.out oZ.out)
      all_goals
        go_wp2
        go_roundw
        case rel => exact ⟨i, rfl, hik, Lib.hid ⟨by rw [← hZ.out]; exact HQ4.out.1.whole Z, ⟨HQ4.out.2.rg.wfar (by have := HG2.out; omega) _, HQ4.out.2.out.wfar (by have := HG2.out; omega) _, below_setRow HQ4.out.2.below (by have := HG2.out; omega)⟩⟩⟩
        case measure => simp [intOf]; omega
theorem refRRoot_any (w : World) (s : Int) (A : Option Addr) (c : Nat) (hs : List (List Int)) (hh : hashes hs) (hA : HL w w.heap.size A hs) :
    Calls Tryd.prog 16 #[.agg #[.int .i64 s, .slice A hs.length c]] w (GivesH w (rootF s hs)) := by
  cases hv : validB s hs.length with
  | false => exact refRRoot_few w s A c hs (.inl hv)
  | true =>
    by_cases h0 : hs.length = 0
    · have h1 := validB_ones hv
      have h2 : s = 0 := by
        by_cases h : s = 0
        · exact h
        · have := ones_pos s.toNat (by omega)
          omega
      exact refRRoot_few w s A c hs (.inr ⟨h2, List.eq_nil_of_length_eq_zero h0⟩)
    · exact refRRoot_more w s A c hs hh hA hv (by omega)
end Go.Proofs.YtfakimbneenfdaaDoor
namespace Go.Proofs.YtfakimbneenfdaaDoor
open Go.RowKit Go.Great
set_option linter.unusedVariables false
set_option maxRecDepth 100000

/-- A number's last twelve bits. -/
theorem and4095 (x : Int) : bits .and .i64 x 4095 = x % 4096 := by
  have oa : (BitVec.ofInt 64 x).toNat = (x % 18446744073709551616).toNat := by rw [BitVec.toNat_ofInt]; rfl
  have ob : (BitVec.ofInt 64 (4095 : Int)).toNat = 4095 := by decide
  show IntKind.i64.wrap ((BitVec.ofInt 64 x &&& BitVec.ofInt 64 4095).toNat : Int) = _
  rw [BitVec.toNat_and, oa, ob, show (4095 : Nat) = 2 ^ 12 - 1 by decide, Nat.and_two_pow_sub_one_eq_mod, IntKind.wrap_i64]
  omega
theorem carry_len (m : Nat) : ∀ (hs : List (List Int)) (x : List Int), (carry m hs x).length ≤ hs.length + 1 := by
  induction m using Nat.strongRecOn with
  | ind m ih =>
    intro hs x
    by_cases hm : m % 2 = 1
    · rw [carry_odd m hs x hm]; have := ih (m / 2) (by omega) hs.dropLast (nodeL (hs.getLastD []) x); rw [List.length_dropLast] at this; omega
    · rw [carry_even m hs x (by omega), List.length_append]; exact Nat.le_refl _
theorem adds_len (ls : List (List Int)) : ∀ s hs, (adds s hs ls).length ≤ hs.length + ls.length := by
  induction ls with
  | nil => intro s hs; exact Nat.le_refl _
  | cons x xs ih =>
    intro s hs
    have h1 := ih (s + 1) (carry s hs x)
    have h2 := carry_len s hs x
    show (adds (s + 1) (carry s hs x) xs).length ≤ _
    rw [List.length_cons]; omega
theorem pushes_len (ns : List Nat) : ∀ (xs : List (List Int)) (s : Nat) (hs : List (List Int)), (pushes ns xs s hs).length ≤ hs.length + xs.length := by
  induction ns with
  | nil => intro xs s hs; rw [pushes_nil]; omega
  | cons n ns ih =>
    intro xs s hs
    cases xs with
    | nil => exact Nat.le_refl _
    | cons x xs =>
      have h1 := ih xs (s + n) (carry (s / n) hs x)
      have h2 := carry_len (s / n) hs x
      show (pushes ns xs (s + n) (carry (s / n) hs x)).length ≤ _
      rw [List.length_cons]; omega
theorem extF_len (s : Int) (hs ls : List (List Int)) (h : hs.length + ls.length ≤ 9223372036854775807) : (extF s hs ls).2.1.length ≤ 9223372036854775807 := by
  unfold extF
  split
  · simp
  · split
    · simp
    · have := adds_len ls s.toNat hs; show (adds s.toNat hs ls).length ≤ _; omega
/-- A range and leaves. -/
structure PrH (w : World) (s : Int) (A : Option Addr) (n c : Nat) (hs : List (List Int)) (LA : Option Addr) (ls : List (List Int)) (W : World) : Prop where
  r : Row W w.heap.size 24 #[.int .i64 s, .slice A n c]
  hr : HW W A hs
  hl : HW W LA ls
  tab : Tab W
  below : Below w.heap.size w W
theorem PrH.next {w W W1 : World} {s : Int} {A : Option Addr} {n c : Nat} {hs : List (List Int)} {LA : Option Addr} {ls : List (List Int)} (h : PrH w s A n c hs LA ls W) (hb : Below W.heap.size W W1) : PrH w s A n c hs LA ls W1 :=
  ⟨h.r.next hb, h.hr.next hb, h.hl.next hb, h.tab.next hb, below_new h.below hb⟩
theorem greatR_any (s : Int) (A : Option Addr) (n c : Nat) (w : World) :
    Calls Tryd.prog 11 #[.agg #[.int .i64 s, .slice A n c]] w fun e w' => e = .returned (.bool (decide (100 < n))) ∧ Below w.heap.size w w' := by
  by_cases h : 100 < n
  · have d1 : decide (100 < (n : Int)) = true := decide_eq_true (by omega)
    have d2 : (100 : Int) < (n : Int) := by omega
    rw [decide_eq_true h]
    go_enter Tryd.func11, Tryd.ntmps11
    go_upto_region 1 with fail
    refine world_gen (fun wx => Row wx w.heap.size 24 #[.int .i64 s, .slice A n c] ∧ Below w.heap.size w wx) ⟨Row.made _ _ _, (Below.refl _ _).alloc (Nat.le_refl _) _⟩ (fun wx HX => ?_)
    have HX := Lib.hid HX
    have c0 := HX.out.1.cell 0
    have c1 := HX.out.1.cell 1
    go_wp2
    go_ret
    exact ⟨rfl, HX.out.2⟩
  · have d1 : decide (100 < (n : Int)) = false := decide_eq_false (by omega)
    have d2 : ¬ (100 : Int) < (n : Int) := by omega
    rw [decide_eq_false h]
    go_enter Tryd.func11, Tryd.ntmps11
    go_upto_region 1 with fail
    refine world_gen (fun wx => Row wx w.heap.size 24 #[.int .i64 s, .slice A n c] ∧ Below w.heap.size w wx) ⟨Row.made _ _ _, (Below.refl _ _).alloc (Nat.le_refl _) _⟩ (fun wx HX => ?_)
    have HX := Lib.hid HX
    have c0 := HX.out.1.cell 0
    have c1 := HX.out.1.cell 1
    go_wp2
    go_ret
    exact ⟨rfl, HX.out.2⟩
end Go.Proofs.YtfakimbneenfdaaDoor
namespace Go.Proofs.YtfakimbneenfdaaDoor
open Go.RowKit Go.Great
set_option linter.unusedVariables false
set_option maxRecDepth 100000

theorem append_nilH (ty : TypeId) (c : Nat) (w : World) : (Builtin.append_ #[22, 22] ty #[.slice none 0 0, .slice none 0 c]).run Tryd.prog w = .ok (.slice none 0 0) w := by
  obtain ⟨i0, hi, hz0, hz1, hz2⟩ := info_parts infoHash
  simp [Builtin.append_, run_underlying Tryd.underlying22, sizeOf, typeInfo, hi, Builtin.lenOf, Builtin.firstCells]
theorem wp_appendC {o : Oper} {a : Act} {w : World} {K : Act → World → Prop} {Q : Exit → Act → World → Prop} (s x : Operand) (ho : o.op = .call { callee := .builtin .append, args := #[s, x], argTypes := #[22, 22] })
    (B : Nat) (us : List (List Int)) (hsv : a.eval s = .slice none 0 0) (A : Option Addr) (m c : Nat) (hx : a.eval x = .slice A m c) (hm : m = us.length) (hu : hashes us) (hU : HL w w.heap.size A us) (hsm : m ≤ 8192) (hB : B ≤ w.heap.size)
    (h : ∀ v' w', w'.ownsRow B 31 32 v' m (cellsL us) → w.grownBy w' none → K (a.put o.dst v') w') : o.wp Tryd.prog a w K Q := by
  cases A with
  | some ad =>
    refine wp_appendH s x ho B (.slice none 0 0) 0 [] us hsv ⟨rfl, .inl ⟨rfl, rfl⟩⟩ ad m c hx hm hu hU (by omega) hB (fun v' w' h1 h2 => ?_)
    rw [Nat.zero_add] at h1
    exact h v' w' h1 h2
  | none =>
    have e0 : us = [] := by
      cases us with
      | nil => rfl
      | cons u us => obtain ⟨ad, e⟩ := hU.some 0 (by simp); cases e
    subst e0
    obtain rfl : m = 0 := hm
    have hk := h (.slice none 0 0) w ⟨rfl, .inl ⟨rfl, rfl⟩⟩ (grown_of_below (Below.refl _ _) none)
    unfold Oper.wp execOp
    simp only [ho, resolve, invoke, builtin, Sem.run_bind, Sem.run_pure, Result.andThen_ok, List.map_toArray, List.map_cons, List.map_nil, hsv, hx, append_nilH]
    exact hk
end Go.Proofs.YtfakimbneenfdaaDoor
namespace Go.Proofs.YtfakimbneenfdaaDoor
open Go.RowKit Go.Great
set_option linter.unusedVariables false
set_option maxRecDepth 100000

theorem mergeF_len (s : Int) (hs : List (List Int)) (j : Int) (p : List (List Int)) (h : hs.length + p.length ≤ 9223372036854775807) : (mergeF s hs j p).2.1.length ≤ 9223372036854775807 := by
  unfold mergeF
  split
  · have := pushes_len (partsL s.toNat j.toNat) p s.toNat hs; show (pushes _ p s.toNat hs).length ≤ _; omega
  · simp
theorem own_HW3 {w : World} {B : Nat} {A : Option Addr} {k c : Nat} {ls : List (List Int)} (h : w.ownsRow B 31 32 (.slice A k c) k (cellsL ls)) (hk : k = ls.length) (hh : hashes ls) : HW w A ls := by subst hk; exact own_HL h hh
attribute [local go_sem ↓ high] read_at write_at eq_at neq_at
set_option maxHeartbeats 80000000 in
theorem telllaw_any (s : Int) (hs64 : -9223372036854775808 ≤ s ∧ s ≤ 9223372036854775807) (A : Option Addr) (c : Nat) (hs : List (List Int)) (hh : hashes hs) (LA : Option Addr) (lc : Nat) (ls : List (List Int)) (hl : hashes ls) (sz : Int) (hsz : -9223372036854775808 ≤ sz ∧ sz ≤ 9223372036854775807)
    (w : World) (hT : Tab w) (hA : HL w w.heap.size A hs) (hL : HL w w.heap.size LA ls) (hlc : ls.length ≤ lc) (hlm : lc ≤ maxLen) :
    Calls Tryd.prog 3 #[.agg #[.int .i64 s, .slice A hs.length c], .slice LA ls.length lc, .int .i64 sz] w fun e w' => e = .returned (.bool true) ∧ Below w.heap.size w w' := by
  obtain ⟨n, hn⟩ : ∃ n, Hid (n = hs.length) := ⟨_, Lib.hid rfl⟩
  obtain ⟨m, hm⟩ : ∃ m, Hid (m = ls.length) := ⟨_, Lib.hid rfl⟩
  have hlm2 : lc ≤ 9223372036854775807 := by unfold maxLen at hlm; omega
  have hmc : m ≤ lc := by rw [hm.out]; exact hlc
  have G1 : Hid (∀ W, Calls Tryd.prog 11 #[.agg #[.int .i64 s, .slice A n c]] W fun e w' => e = .returned (.bool (decide (100 < n))) ∧ Below W.heap.size W w') := Lib.hid fun W => greatR_any s A n c W
  have HW0 : Hid (PrH w s A n c hs LA ls (w.alloc (.cells #[.int .i64 s, .slice A n c] 24))) := Lib.hid (by
    have hb : Below w.heap.size w (w.alloc (.cells #[.int .i64 s, .slice A n c] 24)) := (Below.refl _ _).alloc (Nat.le_refl _) _
    exact ⟨Row.made _ _ _, HW.next hA hb, HW.next hL hb, hT.next hb, hb⟩)
  have HH := Lib.hid hh
  have HHl := Lib.hid hl
  have HLC := Lib.hid (And.intro hlc hlm)
  have HSB := Lib.hid hs64
  rw [← hn.out, ← hm.out]
  clear hT hL hA hlc hlm hh hl
  by_cases h100 : 100 < n
  · have g1 : decide (100 < n) = true := decide_eq_true h100
    rw [g1] at G1
    go_enter Tryd.func3, Tryd.ntmps3
    go_upto_region 1 with fail
    refine world_gen (fun W => PrH w s A n c hs LA ls W) HW0.out (fun wx HX => ?_)
    have HX := Lib.hid HX
    have c0 := HX.out.r.cell 0
    have c1 := HX.out.r.cell 1
    go_wp2_with (first
      | (go_at_call 11; (with_reducible refine (G1.out _).mono ?_); rintro e w1 ⟨rfl, hb⟩; have H1 := Lib.hid (HX.out.next hb); clear hb c0 c1)
      | (go_at_call 12; (with_reducible refine (ranged_any _ H1.out.tab).mono ?_); rintro e w2 ⟨rfl, hb⟩; have HB2 := Lib.hid (below_new H1.out.below hb); clear hb))
    go_ret
    exact ⟨rfl, HB2.out⟩
  have g1 : decide (100 < n) = false := decide_eq_false h100
  rw [g1] at G1
  by_cases hm60 : 60 < m
  · have d1 : decide (60 < (m : Int)) = true := decide_eq_true (by omega)
    have d2 : (60 : Int) < (m : Int) := by omega
    go_enter Tryd.func3, Tryd.ntmps3
    go_upto_region 1 with fail
    refine world_gen (fun W => PrH w s A n c hs LA ls W) HW0.out (fun wx HX => ?_)
    have HX := Lib.hid HX
    have c0 := HX.out.r.cell 0
    have c1 := HX.out.r.cell 1
    go_wp2_with (first
      | (go_at_call 11; (with_reducible refine (G1.out _).mono ?_); rintro e w1 ⟨rfl, hb⟩; have H1 := Lib.hid (HX.out.next hb); clear hb c0 c1)
      | (go_at_call 12; (with_reducible refine (ranged_any _ H1.out.tab).mono ?_); rintro e w2 ⟨rfl, hb⟩; have HB2 := Lib.hid (below_new H1.out.below hb); clear hb))
    go_ret
    exact ⟨rfl, HB2.out⟩
  have d1 : decide (60 < (m : Int)) = false := decide_eq_false (by omega)
  have d2 : ¬ (60 : Int) < (m : Int) := by omega
  have d3 : (m : Int) ≤ 60 := by omega
  have hn100 : n ≤ 100 := by omega
  have hl60 : Hid (ls.length ≤ 60) := Lib.hid (by rw [← hm.out]; omega)
  have hh100 : Hid (hs.length ≤ 100) := Lib.hid (by rw [← hn.out]; omega)
  have hn8 : Hid (n ≤ 8192) := Lib.hid (by omega)
  -- with the leaves more
  obtain ⟨z1, hz1⟩ : ∃ z, Hid (z = (extF s hs ls).1) := ⟨_, Lib.hid rfl⟩
  obtain ⟨H1s, hH1⟩ : ∃ z, Hid (z = (extF s hs ls).2.1) := ⟨_, Lib.hid rfl⟩
  obtain ⟨er1, her1⟩ : ∃ z, Hid (z = (extF s hs ls).2.2) := ⟨_, Lib.hid rfl⟩
  obtain ⟨q1, hq1⟩ : ∃ q, Hid (q = H1s.length) := ⟨_, Lib.hid rfl⟩
  have hH1h : Hid (hashes H1s) := Lib.hid (by rw [hH1.out]; exact extF_hashes HH.out HHl.out)
  have hlen1 : Hid (H1s.length ≤ 9223372036854775807) := Lib.hid (by rw [hH1.out]; exact extF_len _ _ _ (by have := hl60.out; have := hh100.out; omega))
  have XA : Hid (∀ W A1 c1, HW W A1 hs → HW W LA ls → Tab W → Calls Tryd.prog 13 #[.agg #[.int .i64 s, .slice A1 n c1], .slice LA m lc] W fun e w' => ∃ A' c', e = .returned (.tuple #[.agg #[.int .i64 z1, .slice A' q1 c'], .int .i64 er1]) ∧ HW w' A' H1s ∧ Below W.heap.size W w') := Lib.hid fun W A1 c1 h1 h2 h3 => by
    have := extend_any W h3 s HSB.out A1 c1 hs HH.out h1 LA lc ls HHl.out h2 HLC.out.1 HLC.out.2
    rw [← hn.out, ← hm.out] at this
    refine this.mono ?_
    rintro e w' ⟨A', c', he, ho⟩
    rw [← hz1.out, ← hH1.out, ← her1.out, ← hq1.out] at he
    rw [← hH1.out, ← hq1.out] at ho
    exact ⟨A', c', he, own_HW ho hq1.out hH1h.out, ho.2⟩
  have XB : Hid (∀ W, PrH w s A n c hs LA ls W → Calls Tryd.prog 14 #[.agg #[.int .i64 s, .slice A n c], .slice LA m lc] W fun e w' => ∃ A' c', e = .returned (.tuple #[.agg #[.int .i64 z1, .slice A' q1 c'], .int .i64 er1]) ∧ HW w' A' H1s ∧ Below W.heap.size W w') := Lib.hid fun W hW => by
    have := refExtend_any W s HSB.out A c hs HH.out hW.hr LA lc ls HHl.out hW.hl (by have := hl60.out; omega)
    rw [← hn.out, ← hm.out] at this
    refine this.mono ?_
    rintro e w' ⟨A', c', he, ho⟩
    rw [← hz1.out, ← hH1.out, ← her1.out, ← hq1.out] at he
    rw [← hH1.out, ← hq1.out] at ho
    exact ⟨A', c', he, own_HW ho hq1.out hH1h.out, ho.2⟩
  -- the root
  obtain ⟨R, hR⟩ : ∃ R, Hid (R = nums .u8 (rootF s hs).1) := ⟨_, Lib.hid rfl⟩
  obtain ⟨er2, her2⟩ : ∃ z, Hid (z = (rootF s hs).2) := ⟨_, Lib.hid rfl⟩
  have hrt := rootF_is s hs HH.out
  have zR : Hid (R.size = 32) := Lib.hid (by rw [hR.out, nums_size]; exact hrt.1)
  have oR : Hid (R.all (·.oneCell') = true) := Lib.hid (by rw [hR.out]; exact nums_one _ _)
  have QR : Hid (∀ W, (neqAt (.agg R) (.agg R)).run Tryd.prog W = .ok (.bool false) W) := Lib.hid fun W => by
    rw [hR.out, neqAt_hash _ _ hrt.1 hrt.1 hrt.2 hrt.2 W, decide_eq_true rfl]; rfl
  have RA : Hid (∀ W A1 c1, HW W A1 hs → n ≤ c1 → Tab W → Calls Tryd.prog 15 #[.agg #[.int .i64 s, .slice A1 n c1]] W fun e w' => e = .returned (.tuple #[.agg R, .int .i64 er2]) ∧ Below W.heap.size W w') := Lib.hid fun W A1 c1 h1 h2 h3 => by
    have := rroot_any W h3 s A1 c1 hs HH.out h1 (by rw [← hn.out]; exact h2)
    rw [← hn.out] at this
    unfold GivesH at this
    rwa [← hR.out, ← her2.out] at this
  have RB : Hid (∀ W, PrH w s A n c hs LA ls W → Calls Tryd.prog 16 #[.agg #[.int .i64 s, .slice A n c]] W fun e w' => e = .returned (.tuple #[.agg R, .int .i64 er2]) ∧ Below W.heap.size W w') := Lib.hid fun W hW => by
    have := refRRoot_any W s A c hs HH.out hW.hr
    rw [← hn.out] at this
    unfold GivesH at this
    rwa [← hR.out, ← her2.out] at this
  -- whether it may be
  obtain ⟨vb, hvb⟩ : ∃ b, Hid (b = validB s n) := ⟨_, Lib.hid rfl⟩
  have eV : (vb != vb) = false := by simp
  have VA : Hid (∀ W A1 c1, Calls Tryd.prog 18 #[.agg #[.int .i64 s, .slice A1 n c1]] W fun e w' => e = .returned (.bool vb) ∧ Below W.heap.size W w') := Lib.hid fun W A1 c1 => by rw [hvb.out]; exact valid_any s A1 n c1 W
  have VB : Hid (∀ W A1 c1, Calls Tryd.prog 19 #[.agg #[.int .i64 s, .slice A1 n c1]] W fun e w' => e = .returned (.bool vb) ∧ Below W.heap.size W w') := Lib.hid fun W A1 c1 => by rw [hvb.out]; exact refValid_any s A1 n c1 W
  have S1 : Hid (∀ W A1 A2 c1 c2, HW W A1 H1s → HW W A2 H1s → Calls Tryd.prog 17 #[.agg #[.int .i64 z1, .slice A1 q1 c1], .agg #[.int .i64 z1, .slice A2 q1 c2]] W fun e w' => e = .returned (.bool true) ∧ Below W.heap.size W w') := Lib.hid fun W A1 A2 c1 c2 h1 h2 => by
    have := refSame_any W z1 z1 A1 A2 c1 c2 H1s H1s hH1h.out hH1h.out hlen1.out hlen1.out h1 h2
    rw [← hq1.out, show sameB z1 H1s z1 H1s = true from decide_eq_true ⟨rfl, rfl⟩] at this
    exact this
  have S2 : Hid (∀ W A1 c1, HW W A1 hs → HW W A hs → Calls Tryd.prog 17 #[.agg #[.int .i64 s, .slice A1 n c1], .agg #[.int .i64 s, .slice A n c]] W fun e w' => e = .returned (.bool true) ∧ Below W.heap.size W w') := Lib.hid fun W A1 c1 h1 h2 => by
    have := refSame_any W s s A1 A c1 c hs hs HH.out HH.out (by have := hh100.out; omega) (by have := hh100.out; omega) h1 h2
    rw [← hn.out, show sameB s hs s hs = true from decide_eq_true ⟨rfl, rfl⟩] at this
    exact this
  -- what is merged
  have MJ : Hid (∀ j : Int, ∃ (z er : Int) (q : Nat) (Hm : List (List Int)), (∀ W A1 c1, HW W A1 hs → HW W LA ls → Tab W → Calls Tryd.prog 20 #[.agg #[.int .i64 s, .slice A1 n c1], .int .i64 j, .slice LA m lc] W fun e w' => ∃ A' c', e = .returned (.tuple #[.agg #[.int .i64 z, .slice A' q c'], .int .i64 er]) ∧ HW w' A' Hm ∧ Below W.heap.size W w') ∧
      (∀ W, PrH w s A n c hs LA ls W → Calls Tryd.prog 21 #[.agg #[.int .i64 s, .slice A n c], .int .i64 j, .slice LA m lc] W fun e w' => ∃ A' c', e = .returned (.tuple #[.agg #[.int .i64 z, .slice A' q c'], .int .i64 er]) ∧ HW w' A' Hm ∧ Below W.heap.size W w') ∧
      (∀ W A1 A2 c1 c2, HW W A1 Hm → HW W A2 Hm → Calls Tryd.prog 17 #[.agg #[.int .i64 z, .slice A1 q c1], .agg #[.int .i64 z, .slice A2 q c2]] W fun e w' => e = .returned (.bool true) ∧ Below W.heap.size W w')) := Lib.hid fun j => by
    have hHm := mergeF_hashes (s := s) (size := j) HH.out HHl.out
    have hql : (mergeF s hs j ls).2.1.length ≤ 9223372036854775807 := mergeF_len s hs j ls (by have := hl60.out; have := hh100.out; omega)
    refine ⟨(mergeF s hs j ls).1, (mergeF s hs j ls).2.2, (mergeF s hs j ls).2.1.length, (mergeF s hs j ls).2.1, fun W A1 c1 h1 h2 h3 => ?_, fun W hW => ?_, fun W A1 A2 c1 c2 h1 h2 => ?_⟩
    · have := merge_any W h3 s A1 c1 hs HH.out h1 j LA lc ls HHl.out h2 (by have := hl60.out; omega)
      rw [← hn.out, ← hm.out] at this
      refine this.mono ?_
      rintro e w' ⟨A', c', he, ho⟩
      exact ⟨A', c', he, own_HW ho rfl hHm, ho.2⟩
    · have := refMerge_any W s A c hs HH.out hW.hr j LA lc ls HHl.out hW.hl (by have := hl60.out; omega)
      rw [← hn.out, ← hm.out] at this
      refine this.mono ?_
      rintro e w' ⟨A', c', he, ho⟩
      exact ⟨A', c', he, own_HW ho rfl hHm, ho.2⟩
    · have := refSame_any W (mergeF s hs j ls).1 (mergeF s hs j ls).1 A1 A2 c1 c2 _ _ hHm hHm hql hql h1 h2
      rw [show sameB (mergeF s hs j ls).1 (mergeF s hs j ls).2.1 (mergeF s hs j ls).1 (mergeF s hs j ls).2.1 = true from decide_eq_true ⟨rfl, rfl⟩] at this
      exact this
  have esz : bits .and .i64 sz 4095 = sz % 4096 := and4095 sz
  clear hrt
  go_enter Tryd.func3, Tryd.ntmps3
  go_upto_region 1 with fail
  refine world_gen (fun W => PrH w s A n c hs LA ls W) HW0.out (fun wx HX => ?_)
  have HX := Lib.hid HX
  have c0 := HX.out.r.cell 0
  have c1 := HX.out.r.cell 1
  go_upto_region 3 with (go_at_call 11; (with_reducible refine (G1.out _).mono ?_); rintro e w3 ⟨rfl, hb⟩; have HOt := Lib.hid (HX.out.next hb); clear hb c0 c1)
  clear HX HW0 G1
  go_cut [7] (fun s7 wx => ∃ b A' c', s7 = .pointer (some ⟨b, 0, none⟩) ∧ n ≤ c' ∧ Hid (PrH w s A n c hs LA ls wx ∧ RgW wx b s A' n c' hs))
  case first =>
    refine wp_region_fk (Below w3.heap.size w3) (.get 0 (.get 1 (.get 2 (.get 3 (.fork 4 6 (.get 5 (.call 6 (.call 7 .done))) (.call 4 (.get 5 (.call 7 .done)))))))) (by kernel_rfl) rfl (by kernel_rfl) (by kernel_rfl) (by intro c a d v w h; cases d <;> exact h) (Below.refl w3.heap.size w3).drew (fun Q' hQ => ?_)
    have HS := Lib.hid (Below.refl w3.heap.size w3).drew
    have HQ := Lib.hid hQ
    clear hQ
    refine wpFk_get rfl (by rfl) (fun K hK => ?_)
    refine ⟨?_, fun w' hS' => ?_, ?_⟩
    rotate_left
    · go_simp
      try (with_reducible rfl)
    try go_simp
    refine hK _ ?_
    clear hK K
    refine wpFk_get rfl (by rfl) (fun K hK => ?_)
    refine ⟨?_, fun w' hS' => ?_, ?_⟩
    rotate_left
    · have c0 := (HOt.out.next hS').r.cell 0
      have c1 := (HOt.out.next hS').r.cell 1
      go_simp
      try (with_reducible rfl)
    try go_simp
    refine hK _ ?_
    clear hK K
    refine wpFk_get rfl (by rfl) (fun K hK => ?_)
    refine ⟨?_, fun w' hS' => ?_, ?_⟩
    rotate_left
    · go_simp
      try (with_reducible rfl)
    try go_simp
    refine hK _ ?_
    clear hK K
    refine wpFk_get rfl (by rfl) (fun K hK => ?_)
    refine ⟨?_, fun w' hS' => ?_, ?_⟩
    rotate_left
    · have c0 := (HOt.out.next hS').r.cell 0
      have c1 := (HOt.out.next hS').r.cell 1
      go_simp
      try (with_reducible rfl)
    try go_simp
    refine hK _ ?_
    clear hK K
    refine wpFk_fork ?_ ?_
    · refine wpFk_call rfl (by rfl) (fun K hK => ?_)
      refine wp_appendC (.const (.slice none 0 0)) (.tmp 33) rfl w3.heap.size hs rfl A n c rfl hn.out HH.out (HOt.out.next HS.out).hr hn8.out HS.out.size ?_
      intro v1 w4 ho hg
      obtain ⟨A1, c1, rfl⟩ := own_form ho
      have HO : Hid (w4.ownsRow w3.heap.size 31 32 (.slice A1 n c1) n (cellsL hs)) := Lib.hid ho
      replace HS := Lib.hid (HS.out.grown hg HS.out.size (by intro k hk; simp at hk))
      clear ho hg
      try go_simp
      refine hK _ _ HS.out ?_
      clear hK K
      refine wpFk_get rfl (by rfl) (fun K hK => ?_)
      refine ⟨?_, fun w' hS' => ?_, ?_⟩
      rotate_left
      · go_simp
        try (with_reducible rfl)
      try go_simp
      refine hK _ ?_
      clear hK K
      refine wpFk_call rfl (by rfl) (fun K hK => ?_)
      go_simp
      have HSb := HS
      have HZ := Lib.hid (Row.made w4 24 #[.int .i64 0, .slice none 0 0])
      replace HS := Lib.hid (HS.out.alloc HS.out.size (.cells #[.int .i64 0, .slice none 0 0] 24))
      refine hK _ _ HS.out ?_
      clear hK K
      refine wpFk_call rfl (by rfl) (fun K hK => ?_)
      go_simp
      have HF := Lib.hid (Row.made w4 24 #[.int .i64 s, .slice A1 n c1])
      replace HS := Lib.hid (HSb.out.alloc HSb.out.size (.cells #[.int .i64 s, .slice A1 n c1] 24))
      refine hK _ _ HS.out ?_
      clear hK K
      refine wpFk_done ?_
      refine HQ.out _ _ ?_
      have hc1 := (own_some HO.out).1
      go_wp2
      go_meet
      case rel => exact ⟨_, _, _, rfl, hc1, Lib.hid ⟨HOt.out.next HS.out, HF.out, (own_HW3 HO.out hn.out HH.out).next ((Below.refl w4.heap.size w4).alloc (Nat.le_refl _) _)⟩⟩
    · refine wpFk_call rfl (by rfl) (fun K hK => ?_)
      go_simp
      have HSb := HS
      have HZ := Lib.hid (Row.made w3.drew 24 #[.int .i64 0, .slice none 0 0])
      replace HS := Lib.hid (HS.out.alloc HS.out.size (.cells #[.int .i64 0, .slice none 0 0] 24))
      refine hK _ _ HS.out ?_
      clear hK K
      refine wpFk_call rfl (by rfl) (fun K hK => ?_)
      refine wp_appendC (.const (.slice none 0 0)) (.tmp 33) rfl (w3.heap.size + 1) hs rfl A n c rfl hn.out HH.out (HOt.out.next HS.out).hr hn8.out (by simp) ?_
      intro v1 w4 ho hg
      obtain ⟨A1, c1, rfl⟩ := own_form ho
      have HO : Hid (w4.ownsRow (w3.heap.size + 1) 31 32 (.slice A1 n c1) n (cellsL hs)) := Lib.hid ho
      have HZ4 : Hid (Row w4 w3.heap.size 24 #[.int .i64 0, .slice none 0 0]) := Lib.hid (HZ.out.grown hg (by simp))
      have z0 := HZ4.out.cell 0
      have z1 := HZ4.out.cell 1
      have f0 := HZ4.out.free 0
      have f1 := HZ4.out.free 1
      replace HS := Lib.hid (HS.out.grown hg HS.out.size (by intro k hk; simp at hk))
      clear ho hg
      try go_simp
      refine hK _ _ HS.out ?_
      clear hK K
      refine wpFk_get rfl (by rfl) (fun K hK => ?_)
      refine ⟨?_, fun w' hS' => ?_, ?_⟩
      rotate_left
      · go_simp
        try (with_reducible rfl)
      try go_simp
      refine hK _ ?_
      clear hK K
      refine wpFk_call rfl (by rfl) (fun K hK => ?_)
      go_simp
      have HF := Lib.hid ((HZ4.out.put 0 (.int .i64 s)).put 1 (.slice A1 n c1))
      replace HS := Lib.hid ((HS.out.setCell (p := ⟨w3.heap.size, 0, none⟩) (Nat.le_refl _) (.int .i64 s)).setCell (p := ⟨w3.heap.size, 1, none⟩) (Nat.le_refl _) (.slice A1 n c1))
      refine hK _ _ HS.out ?_
      clear hK K
      refine wpFk_done ?_
      refine HQ.out _ _ ?_
      have hc1 := (own_some HO.out).1
      go_wp2
      go_meet
      case rel => exact ⟨_, _, _, rfl, hc1, Lib.hid ⟨HOt.out.next HS.out, HF.out, own_HW2 HO.out hn.out HH.out (by omega) _ _⟩⟩
  case rest =>
    obtain ⟨b7, Ao, co, rfl, hco, H3⟩ := hcut
    have H3a := Lib.hid H3.out.1
    have H3b := Lib.hid H3.out.2
    clear H3
    have HHo := Lib.hid H3b.out.2
    have c0 := H3b.out.1.cell 0
    have c1 := H3b.out.1.cell 1
    go_upto_region 5 with (go_at_call 13; (with_reducible refine (XA.out _ _ _ HHo.out H3a.out.hl H3a.out.tab).mono ?_); rintro e w4 ⟨A4, c4, rfl, ha, hb⟩; have H4a := Lib.hid (H3a.out.next hb); have H4b := Lib.hid (H3b.out.next hb); have HA4 := Lib.hid ha; clear ha hb c0 c1)
    have HP := Lib.hid (range_put w4 z1 A4 q1 c4)
    refine world_gen (fun W => PrH w s A n c hs LA ls W ∧ RgW W b7 s Ao n co hs ∧ RgW W w4.heap.size z1 A4 q1 c4 H1s) ⟨H4a.out.next HP.out.2, H4b.out.next HP.out.2, HP.out.1, HA4.out.next HP.out.2⟩ (fun w5 H5 => ?_)
    have H5a := Lib.hid H5.1
    have H5b := Lib.hid H5.2.1
    have H5c := Lib.hid H5.2.2
    have c0 := H5a.out.r.cell 0
    have c1 := H5a.out.r.cell 1
    clear HP HA4 H4a H4b H3a H3b HHo H5 XA
    go_upto_region 6 with (go_at_call 14; (with_reducible refine (XB.out _ H5a.out).mono ?_); rintro e w6 ⟨A6, c6, rfl, ha, hb⟩; have H6a := Lib.hid (H5a.out.next hb); have H6b := Lib.hid (H5b.out.next hb); have H6c := Lib.hid (H5c.out.next hb); have HA6 := Lib.hid ha; clear ha hb c0 c1)
    have HP := Lib.hid (range_put w6 z1 A6 q1 c6)
    refine world_gen (fun W => PrH w s A n c hs LA ls W ∧ RgW W b7 s Ao n co hs ∧ RgW W w4.heap.size z1 A4 q1 c4 H1s ∧ RgW W w6.heap.size z1 A6 q1 c6 H1s) ⟨H6a.out.next HP.out.2, H6b.out.next HP.out.2, H6c.out.next HP.out.2, HP.out.1, HA6.out.next HP.out.2⟩ (fun w7 H7 => ?_)
    have H7a := Lib.hid H7.1
    have H7b := Lib.hid H7.2.1
    have H7c := Lib.hid H7.2.2.1
    have H7d := Lib.hid H7.2.2.2
    have HHo := Lib.hid H7b.out.2
    have c0 := H7b.out.1.cell 0
    have c1 := H7b.out.1.cell 1
    clear HP HA6 H6a H6b H6c H5a H5b H5c H7 XB
    go_upto_region 7 with (go_at_call 15; (with_reducible refine (RA.out _ _ _ HHo.out hco H7a.out.tab).mono ?_); rintro e w8 ⟨rfl, hb⟩; obtain ⟨w9, s9, hr9, hb9, hz9⟩ := made_write w8 R zR.out oR.out; have H9a := Lib.hid ((H7a.out.next hb).next hb9); have H9b := Lib.hid ((H7b.out.next hb).next hb9); have H9c := Lib.hid ((H7c.out.next hb).next hb9); have H9d := Lib.hid ((H7d.out.next hb).next hb9); have H9r := Lib.hid hr9; clear hb hr9 hb9 hz9 c0 c1)
    clear s9 H7a H7b H7c H7d HHo RA
    have c0 := H9a.out.r.cell 0
    have c1 := H9a.out.r.cell 1
    go_upto_region 8 with (go_at_call 16; (with_reducible refine (RB.out _ H9a.out).mono ?_); rintro e w10 ⟨rfl, hb⟩; obtain ⟨w11, s11, hr11, hb11, hz11⟩ := made_write w10 R zR.out oR.out; have HOt := Lib.hid ((H9a.out.next hb).next hb11); have HOw := Lib.hid ((H9b.out.next hb).next hb11); have HRa := Lib.hid ((H9c.out.next hb).next hb11); have HRb := Lib.hid ((H9d.out.next hb).next hb11); have HRr := Lib.hid ((H9r.out.next hb).next hb11); have HRs := Lib.hid hr11; clear hb hr11 hb11 hz11 c0 c1)
    clear s11 H9a H9b H9c H9d H9r RB
    refine wp_region_fk (Below w11.heap.size w11) (.get 0 (.get 1 (.call 2 (.get 3 (.get 4 (.get 5 (.get 6 (.get 7 (.get 8 (.get 9 (.get 10 (.get 11 (.get 12 (.get 13 (.get 14 (.get 15 (.get 16 (.get 17 (.get 18 (.get 19 (.get 20 (.get 22 (.call 21 (.call 23 (.get 24 (.get 25 .done)))))))))))))))))))))))))) (by kernel_rfl) rfl (by kernel_rfl) (by kernel_rfl) (by intro c a d v w h; cases d <;> exact h) (Below.refl w11.heap.size w11).drew (fun Q' hQ => ?_)
    have HS := Lib.hid (Below.refl w11.heap.size w11).drew
    have HQ := Lib.hid hQ
    clear hQ
    refine wpFk_get rfl (by rfl) (fun K hK => ?_)
    refine ⟨?_, fun w' hS' => ?_, ?_⟩
    rotate_left
    · have c0 := (HRa.out.next hS').1.cell 0
      have c1 := (HRa.out.next hS').1.cell 1
      go_simp
      try (with_reducible rfl)
    try go_simp
    refine hK _ ?_
    clear hK K
    refine wpFk_get rfl (by rfl) (fun K hK => ?_)
    refine ⟨?_, fun w' hS' => ?_, ?_⟩
    rotate_left
    · have c0 := (HRb.out.next hS').1.cell 0
      have c1 := (HRb.out.next hS').1.cell 1
      go_simp
      try (with_reducible rfl)
    try go_simp
    refine hK _ ?_
    clear hK K
    refine wpFk_call rfl (by rfl) (fun K hK => ?_)
    go_simp
    go_at_call 17
    refine (S1.out _ _ _ _ _ (HRa.out.next HS.out).2 (HRb.out.next HS.out).2).mono ?_
    rintro e w2x ⟨rfl, hb⟩
    replace HS := Lib.hid (below_new HS.out hb)
    clear hb
    refine hK _ _ HS.out ?_
    clear hK K
    refine wpFk_get rfl (by rfl) (fun K hK => ?_)
    refine ⟨?_, fun w' hS' => ?_, ?_⟩
    rotate_left
    · go_simp
      try (with_reducible rfl)
    try go_simp
    refine hK _ ?_
    clear hK K
    refine wpFk_get rfl (by rfl) (fun K hK => ?_)
    refine ⟨?_, fun w' hS' => ?_, ?_⟩
    rotate_left
    · go_simp
      try (with_reducible rfl)
    try go_simp
    refine hK _ ?_
    clear hK K
    refine wpFk_get rfl (by rfl) (fun K hK => ?_)
    refine ⟨?_, fun w' hS' => ?_, ?_⟩
    rotate_left
    · go_simp
      try (with_reducible rfl)
    try go_simp
    refine hK _ ?_
    clear hK K
    refine wpFk_get rfl (by rfl) (fun K hK => ?_)
    refine ⟨?_, fun w' hS' => ?_, ?_⟩
    rotate_left
    · go_simp
      try (with_reducible rfl)
    try go_simp
    refine hK _ ?_
    clear hK K
    refine wpFk_get rfl (by rfl) (fun K hK => ?_)
    refine ⟨?_, fun w' hS' => ?_, ?_⟩
    rotate_left
    · go_simp
      try (with_reducible rfl)
    try go_simp
    refine hK _ ?_
    clear hK K
    refine wpFk_get rfl (by rfl) (fun K hK => ?_)
    refine ⟨?_, fun w' hS' => ?_, ?_⟩
    rotate_left
    · go_simp
      try (with_reducible rfl)
    try go_simp
    refine hK _ ?_
    clear hK K
    refine wpFk_get rfl (by rfl) (fun K hK => ?_)
    refine ⟨?_, fun w' hS' => ?_, ?_⟩
    rotate_left
    · go_simp
      try (with_reducible rfl)
    try go_simp
    refine hK _ ?_
    clear hK K
    refine wpFk_get rfl (by rfl) (fun K hK => ?_)
    refine ⟨_, fun w' hS' => get_load rfl rfl ((HRr.out.next hS').read zR.out), ?_⟩
    try go_simp
    refine hK _ ?_
    clear hK K
    refine wpFk_get rfl (by rfl) (fun K hK => ?_)
    refine ⟨_, fun w' hS' => get_load rfl rfl ((HRs.out.next hS').read zR.out), ?_⟩
    try go_simp
    refine hK _ ?_
    clear hK K
    refine wpFk_get rfl (by rfl) (fun K hK => ?_)
    refine ⟨_, fun w' hS' => get_neqH rfl rfl rfl (QR.out _), ?_⟩
    try go_simp
    refine hK _ ?_
    clear hK K
    refine wpFk_get rfl (by rfl) (fun K hK => ?_)
    refine ⟨?_, fun w' hS' => ?_, ?_⟩
    rotate_left
    · go_simp
      try (with_reducible rfl)
    try go_simp
    refine hK _ ?_
    clear hK K
    refine wpFk_get rfl (by rfl) (fun K hK => ?_)
    refine ⟨?_, fun w' hS' => ?_, ?_⟩
    rotate_left
    · go_simp
      try (with_reducible rfl)
    try go_simp
    refine hK _ ?_
    clear hK K
    refine wpFk_get rfl (by rfl) (fun K hK => ?_)
    refine ⟨?_, fun w' hS' => ?_, ?_⟩
    rotate_left
    · go_simp
      try (with_reducible rfl)
    try go_simp
    refine hK _ ?_
    clear hK K
    refine wpFk_get rfl (by rfl) (fun K hK => ?_)
    refine ⟨?_, fun w' hS' => ?_, ?_⟩
    rotate_left
    · go_simp
      try (with_reducible rfl)
    try go_simp
    refine hK _ ?_
    clear hK K
    refine wpFk_get rfl (by rfl) (fun K hK => ?_)
    refine ⟨?_, fun w' hS' => ?_, ?_⟩
    rotate_left
    · go_simp
      try (with_reducible rfl)
    try go_simp
    refine hK _ ?_
    clear hK K
    refine wpFk_get rfl (by rfl) (fun K hK => ?_)
    refine ⟨?_, fun w' hS' => ?_, ?_⟩
    rotate_left
    · go_simp
      try (with_reducible rfl)
    try go_simp
    refine hK _ ?_
    clear hK K
    refine wpFk_get rfl (by rfl) (fun K hK => ?_)
    refine ⟨?_, fun w' hS' => ?_, ?_⟩
    rotate_left
    · go_simp
      try (with_reducible rfl)
    try go_simp
    refine hK _ ?_
    clear hK K
    refine wpFk_get rfl (by rfl) (fun K hK => ?_)
    refine ⟨?_, fun w' hS' => ?_, ?_⟩
    rotate_left
    · have c0 := (HOw.out.next hS').1.cell 0
      have c1 := (HOw.out.next hS').1.cell 1
      go_simp
      try (with_reducible rfl)
    try go_simp
    refine hK _ ?_
    clear hK K
    refine wpFk_get rfl (by rfl) (fun K hK => ?_)
    refine ⟨?_, fun w' hS' => ?_, ?_⟩
    rotate_left
    · have c0 := (HOt.out.next hS').r.cell 0
      have c1 := (HOt.out.next hS').r.cell 1
      go_simp
      try (with_reducible rfl)
    try go_simp
    refine hK _ ?_
    clear hK K
    refine wpFk_call rfl (by rfl) (fun K hK => ?_)
    go_simp
    go_at_call 18
    refine (VA.out _ _ _).mono ?_
    rintro e w2x ⟨rfl, hb⟩
    replace HS := Lib.hid (below_new HS.out hb)
    clear hb
    refine hK _ _ HS.out ?_
    clear hK K
    refine wpFk_call rfl (by rfl) (fun K hK => ?_)
    go_simp
    go_at_call 19
    refine (VB.out _ _ _).mono ?_
    rintro e w2x ⟨rfl, hb⟩
    replace HS := Lib.hid (below_new HS.out hb)
    clear hb
    refine hK _ _ HS.out ?_
    clear hK K
    refine wpFk_get rfl (by rfl) (fun K hK => ?_)
    refine ⟨?_, fun w' hS' => ?_, ?_⟩
    rotate_left
    · go_simp
      try (with_reducible rfl)
    try go_simp
    refine hK _ ?_
    clear hK K
    refine wpFk_get rfl (by rfl) (fun K hK => ?_)
    refine ⟨?_, fun w' hS' => ?_, ?_⟩
    rotate_left
    · go_simp
      try (with_reducible rfl)
    try go_simp
    refine hK _ ?_
    clear hK K
    refine wpFk_done ?_
    refine HQ.out _ _ ?_
    go_wp2
    have H9 := Lib.hid (And.intro (HOt.out.next HS.out) (HOw.out.next HS.out))
    clear HOt HOw HRa HRb HRr HRs HS HQ S1 VA VB eV QR
    go_loopw [16] (fun s16 wr => ∃ k : Nat, s16 = .int .i64 (k : Int) ∧ k ≤ 3 ∧ Hid (PrH w s A n c hs LA ls wr ∧ RgW wr b7 s Ao n co hs)) (fun s16 _ => (3 - intOf s16).toNat)
    case atStart => exact ⟨0, rfl, by omega, H9⟩
    case round =>
      clear H9
      obtain ⟨k, rfl, hk3, HL⟩ := hrel
      by_cases k0 : k = 0
      · subst k0
        obtain ⟨z, er, q, Hm, PA, PB, PS⟩ := MJ.out sz
        have PA := Lib.hid PA
        have PB := Lib.hid PB
        have PS := Lib.hid PS
        have cr0 := HL.out.1.r.cell 0
        have c0 := HL.out.2.1.cell 0
        have c1 := HL.out.2.1.cell 1
        have HLa := Lib.hid HL.out.1
        have HLb := Lib.hid HL.out.2
        have HLo := Lib.hid HL.out.2.2
        clear HL
        go_upto_region 19 with (go_at_call 20; (with_reducible refine (PA.out _ _ _ HLo.out HLa.out.hl HLa.out.tab).mono ?_); rintro e w5 ⟨A5, c5, rfl, ha, hb⟩; have H5a := Lib.hid (HLa.out.next hb); have H5b := Lib.hid (HLb.out.next hb); have HA5 := Lib.hid ha; clear ha hb c0 c1 cr0)
        have HP := Lib.hid (range_put w5 z A5 q c5)
        refine world_gen (fun W => PrH w s A n c hs LA ls W ∧ RgW W b7 s Ao n co hs ∧ RgW W w5.heap.size z A5 q c5 Hm) ⟨H5a.out.next HP.out.2, H5b.out.next HP.out.2, HP.out.1, HA5.out.next HP.out.2⟩ (fun w6 H6 => ?_)
        have H6a := Lib.hid H6.1
        have H6b := Lib.hid H6.2.1
        have H6c := Lib.hid H6.2.2
        have c0 := H6a.out.r.cell 0
        have c1 := H6a.out.r.cell 1
        clear HP HA5 H5a H5b H6 HLa HLb HLo
        go_upto_region 20 with (go_at_call 21; (with_reducible refine (PB.out _ H6a.out).mono ?_); rintro e w7 ⟨A7, c7, rfl, ha, hb⟩; have H7a := Lib.hid (H6a.out.next hb); have H7b := Lib.hid (H6b.out.next hb); have H7c := Lib.hid (H6c.out.next hb); have HA7 := Lib.hid ha; clear ha hb c0 c1)
        have HP := Lib.hid (range_put w7 z A7 q c7)
        refine world_gen (fun W => PrH w s A n c hs LA ls W ∧ RgW W b7 s Ao n co hs ∧ RgW W w5.heap.size z A5 q c5 Hm ∧ RgW W w7.heap.size z A7 q c7 Hm) ⟨H7a.out.next HP.out.2, H7b.out.next HP.out.2, H7c.out.next HP.out.2, HP.out.1, HA7.out.next HP.out.2⟩ (fun w8 H8 => ?_)
        have HOt := Lib.hid H8.1
        have HOw := Lib.hid H8.2.1
        have HMa := Lib.hid H8.2.2.1
        have HMb := Lib.hid H8.2.2.2
        clear HP HA7 H7a H7b H7c H6a H6b H6c H8
        have m0 := HMa.out.1.cell 0
        have m1 := HMa.out.1.cell 1
        have m2 := HMb.out.1.cell 0
        have m3 := HMb.out.1.cell 1
        have HM2 := Lib.hid HMa.out.2
        have HM3 := Lib.hid HMb.out.2
        go_wp2_with (go_at_call 17; (with_reducible refine (PS.out _ _ _ _ _ HM2.out HM3.out).mono ?_); rintro e w9 ⟨rfl, hb⟩; have H9a := Lib.hid (HOt.out.next hb); have H9b := Lib.hid (HOw.out.next hb); clear hb m0 m1 m2 m3)
        go_roundw
        case rel => exact ⟨1, by first | rfl | go_num, by omega, Lib.hid ⟨H9a.out, H9b.out⟩⟩
        case measure => simp [intOf]
      · by_cases k1 : k = 1
        · subst k1
          by_cases h5 : s < 5000
          · have g5 : decide (s < 5000) = true := decide_eq_true h5
            have ws : IntKind.i64.wrap (s + (m : Int)) = s + (m : Int) := by rw [IntKind.wrap_i64]; omega
            obtain ⟨z, er, q, Hm, PA, PB, PS⟩ := MJ.out (s + (m : Int))
            have PA := Lib.hid PA
            have PB := Lib.hid PB
            have PS := Lib.hid PS
            have cr0 := HL.out.1.r.cell 0
            have c0 := HL.out.2.1.cell 0
            have c1 := HL.out.2.1.cell 1
            have HLa := Lib.hid HL.out.1
            have HLb := Lib.hid HL.out.2
            have HLo := Lib.hid HL.out.2.2
            clear HL
            go_upto_region 19 with (go_at_call 20; (with_reducible refine (PA.out _ _ _ HLo.out HLa.out.hl HLa.out.tab).mono ?_); rintro e w5 ⟨A5, c5, rfl, ha, hb⟩; have H5a := Lib.hid (HLa.out.next hb); have H5b := Lib.hid (HLb.out.next hb); have HA5 := Lib.hid ha; clear ha hb c0 c1 cr0)
            have HP := Lib.hid (range_put w5 z A5 q c5)
            refine world_gen (fun W => PrH w s A n c hs LA ls W ∧ RgW W b7 s Ao n co hs ∧ RgW W w5.heap.size z A5 q c5 Hm) ⟨H5a.out.next HP.out.2, H5b.out.next HP.out.2, HP.out.1, HA5.out.next HP.out.2⟩ (fun w6 H6 => ?_)
            have H6a := Lib.hid H6.1
            have H6b := Lib.hid H6.2.1
            have H6c := Lib.hid H6.2.2
            have c0 := H6a.out.r.cell 0
            have c1 := H6a.out.r.cell 1
            clear HP HA5 H5a H5b H6 HLa HLb HLo
            go_upto_region 20 with (go_at_call 21; (with_reducible refine (PB.out _ H6a.out).mono ?_); rintro e w7 ⟨A7, c7, rfl, ha, hb⟩; have H7a := Lib.hid (H6a.out.next hb); have H7b := Lib.hid (H6b.out.next hb); have H7c := Lib.hid (H6c.out.next hb); have HA7 := Lib.hid ha; clear ha hb c0 c1)
            have HP := Lib.hid (range_put w7 z A7 q c7)
            refine world_gen (fun W => PrH w s A n c hs LA ls W ∧ RgW W b7 s Ao n co hs ∧ RgW W w5.heap.size z A5 q c5 Hm ∧ RgW W w7.heap.size z A7 q c7 Hm) ⟨H7a.out.next HP.out.2, H7b.out.next HP.out.2, H7c.out.next HP.out.2, HP.out.1, HA7.out.next HP.out.2⟩ (fun w8 H8 => ?_)
            have HOt := Lib.hid H8.1
            have HOw := Lib.hid H8.2.1
            have HMa := Lib.hid H8.2.2.1
            have HMb := Lib.hid H8.2.2.2
            clear HP HA7 H7a H7b H7c H6a H6b H6c H8
            have m0 := HMa.out.1.cell 0
            have m1 := HMa.out.1.cell 1
            have m2 := HMb.out.1.cell 0
            have m3 := HMb.out.1.cell 1
            have HM2 := Lib.hid HMa.out.2
            have HM3 := Lib.hid HMb.out.2
            go_wp2_with (go_at_call 17; (with_reducible refine (PS.out _ _ _ _ _ HM2.out HM3.out).mono ?_); rintro e w9 ⟨rfl, hb⟩; have H9a := Lib.hid (HOt.out.next hb); have H9b := Lib.hid (HOw.out.next hb); clear hb m0 m1 m2 m3)
            go_roundw
            case rel => exact ⟨2, by first | rfl | go_num, by omega, Lib.hid ⟨H9a.out, H9b.out⟩⟩
            case measure => simp [intOf]
          · have g5 : decide (s < 5000) = false := decide_eq_false h5
            obtain ⟨z, er, q, Hm, PA, PB, PS⟩ := MJ.out sz
            have PA := Lib.hid PA
            have PB := Lib.hid PB
            have PS := Lib.hid PS
            have cr0 := HL.out.1.r.cell 0
            have c0 := HL.out.2.1.cell 0
            have c1 := HL.out.2.1.cell 1
            have HLa := Lib.hid HL.out.1
            have HLb := Lib.hid HL.out.2
            have HLo := Lib.hid HL.out.2.2
            clear HL
            go_upto_region 19 with (go_at_call 20; (with_reducible refine (PA.out _ _ _ HLo.out HLa.out.hl HLa.out.tab).mono ?_); rintro e w5 ⟨A5, c5, rfl, ha, hb⟩; have H5a := Lib.hid (HLa.out.next hb); have H5b := Lib.hid (HLb.out.next hb); have HA5 := Lib.hid ha; clear ha hb c0 c1 cr0)
            have HP := Lib.hid (range_put w5 z A5 q c5)
            refine world_gen (fun W => PrH w s A n c hs LA ls W ∧ RgW W b7 s Ao n co hs ∧ RgW W w5.heap.size z A5 q c5 Hm) ⟨H5a.out.next HP.out.2, H5b.out.next HP.out.2, HP.out.1, HA5.out.next HP.out.2⟩ (fun w6 H6 => ?_)
            have H6a := Lib.hid H6.1
            have H6b := Lib.hid H6.2.1
            have H6c := Lib.hid H6.2.2
            have c0 := H6a.out.r.cell 0
            have c1 := H6a.out.r.cell 1
            clear HP HA5 H5a H5b H6 HLa HLb HLo
            go_upto_region 20 with (go_at_call 21; (with_reducible refine (PB.out _ H6a.out).mono ?_); rintro e w7 ⟨A7, c7, rfl, ha, hb⟩; have H7a := Lib.hid (H6a.out.next hb); have H7b := Lib.hid (H6b.out.next hb); have H7c := Lib.hid (H6c.out.next hb); have HA7 := Lib.hid ha; clear ha hb c0 c1)
            have HP := Lib.hid (range_put w7 z A7 q c7)
            refine world_gen (fun W => PrH w s A n c hs LA ls W ∧ RgW W b7 s Ao n co hs ∧ RgW W w5.heap.size z A5 q c5 Hm ∧ RgW W w7.heap.size z A7 q c7 Hm) ⟨H7a.out.next HP.out.2, H7b.out.next HP.out.2, H7c.out.next HP.out.2, HP.out.1, HA7.out.next HP.out.2⟩ (fun w8 H8 => ?_)
            have HOt := Lib.hid H8.1
            have HOw := Lib.hid H8.2.1
            have HMa := Lib.hid H8.2.2.1
            have HMb := Lib.hid H8.2.2.2
            clear HP HA7 H7a H7b H7c H6a H6b H6c H8
            have m0 := HMa.out.1.cell 0
            have m1 := HMa.out.1.cell 1
            have m2 := HMb.out.1.cell 0
            have m3 := HMb.out.1.cell 1
            have HM2 := Lib.hid HMa.out.2
            have HM3 := Lib.hid HMb.out.2
            go_wp2_with (go_at_call 17; (with_reducible refine (PS.out _ _ _ _ _ HM2.out HM3.out).mono ?_); rintro e w9 ⟨rfl, hb⟩; have H9a := Lib.hid (HOt.out.next hb); have H9b := Lib.hid (HOw.out.next hb); clear hb m0 m1 m2 m3)
            go_roundw
            case rel => exact ⟨2, by first | rfl | go_num, by omega, Lib.hid ⟨H9a.out, H9b.out⟩⟩
            case measure => simp [intOf]
        · by_cases k2 : k = 2
          · subst k2
            have ws : IntKind.i64.wrap (1 + sz % 4096) = 1 + sz % 4096 := by rw [IntKind.wrap_i64]; omega
            obtain ⟨z, er, q, Hm, PA, PB, PS⟩ := MJ.out (1 + sz % 4096)
            have PA := Lib.hid PA
            have PB := Lib.hid PB
            have PS := Lib.hid PS
            have cr0 := HL.out.1.r.cell 0
            have c0 := HL.out.2.1.cell 0
            have c1 := HL.out.2.1.cell 1
            have HLa := Lib.hid HL.out.1
            have HLb := Lib.hid HL.out.2
            have HLo := Lib.hid HL.out.2.2
            clear HL
            go_upto_region 19 with (go_at_call 20; (with_reducible refine (PA.out _ _ _ HLo.out HLa.out.hl HLa.out.tab).mono ?_); rintro e w5 ⟨A5, c5, rfl, ha, hb⟩; have H5a := Lib.hid (HLa.out.next hb); have H5b := Lib.hid (HLb.out.next hb); have HA5 := Lib.hid ha; clear ha hb c0 c1 cr0)
            have HP := Lib.hid (range_put w5 z A5 q c5)
            refine world_gen (fun W => PrH w s A n c hs LA ls W ∧ RgW W b7 s Ao n co hs ∧ RgW W w5.heap.size z A5 q c5 Hm) ⟨H5a.out.next HP.out.2, H5b.out.next HP.out.2, HP.out.1, HA5.out.next HP.out.2⟩ (fun w6 H6 => ?_)
            have H6a := Lib.hid H6.1
            have H6b := Lib.hid H6.2.1
            have H6c := Lib.hid H6.2.2
            have c0 := H6a.out.r.cell 0
            have c1 := H6a.out.r.cell 1
            clear HP HA5 H5a H5b H6 HLa HLb HLo
            go_upto_region 20 with (go_at_call 21; (with_reducible refine (PB.out _ H6a.out).mono ?_); rintro e w7 ⟨A7, c7, rfl, ha, hb⟩; have H7a := Lib.hid (H6a.out.next hb); have H7b := Lib.hid (H6b.out.next hb); have H7c := Lib.hid (H6c.out.next hb); have HA7 := Lib.hid ha; clear ha hb c0 c1)
            have HP := Lib.hid (range_put w7 z A7 q c7)
            refine world_gen (fun W => PrH w s A n c hs LA ls W ∧ RgW W b7 s Ao n co hs ∧ RgW W w5.heap.size z A5 q c5 Hm ∧ RgW W w7.heap.size z A7 q c7 Hm) ⟨H7a.out.next HP.out.2, H7b.out.next HP.out.2, H7c.out.next HP.out.2, HP.out.1, HA7.out.next HP.out.2⟩ (fun w8 H8 => ?_)
            have HOt := Lib.hid H8.1
            have HOw := Lib.hid H8.2.1
            have HMa := Lib.hid H8.2.2.1
            have HMb := Lib.hid H8.2.2.2
            clear HP HA7 H7a H7b H7c H6a H6b H6c H8
            have m0 := HMa.out.1.cell 0
            have m1 := HMa.out.1.cell 1
            have m2 := HMb.out.1.cell 0
            have m3 := HMb.out.1.cell 1
            have HM2 := Lib.hid HMa.out.2
            have HM3 := Lib.hid HMb.out.2
            go_wp2_with (go_at_call 17; (with_reducible refine (PS.out _ _ _ _ _ HM2.out HM3.out).mono ?_); rintro e w9 ⟨rfl, hb⟩; have H9a := Lib.hid (HOt.out.next hb); have H9b := Lib.hid (HOw.out.next hb); clear hb m0 m1 m2 m3)
            go_roundw
            case rel => exact ⟨3, by first | rfl | go_num, by omega, Lib.hid ⟨H9a.out, H9b.out⟩⟩
            case measure => simp [intOf]
          · obtain rfl : k = 3 := by omega
            have HLa := Lib.hid HL.out.1
            have HLb := Lib.hid HL.out.2
            have HLo := Lib.hid HL.out.2.2
            have c0 := HLa.out.r.cell 0
            have c1 := HLa.out.r.cell 1
            have e0 := HLb.out.1.cell 0
            have e1 := HLb.out.1.cell 1
            clear HL
            go_wp2_with (first
              | (go_at_call 17; (with_reducible refine (S2.out _ _ _ HLo.out HLa.out.hr).mono ?_); rintro e w5 ⟨rfl, hb⟩; have H5 := Lib.hid (HLa.out.next hb); clear hb c0 c1 e0 e1)
              | (go_at_call 12; (with_reducible refine (ranged_any _ H5.out.tab).mono ?_); rintro e w6 ⟨rfl, hb⟩; have HB6 := Lib.hid (below_new H5.out.below hb); clear hb))
            go_ret
            exact ⟨rfl, HB6.out⟩
end Go.Proofs.YtfakimbneenfdaaDoor
namespace Go.Proofs.YtfakimbneenfdaaDoor
open Go.ChangeShapes Go.WideShapes Go.ChangeAt Go.RowKit
set_option linter.unusedVariables false
set_option maxRecDepth 100000

/-- A hash's cells, opened. -/
theorem hash_cells {H : Type} {enc : TypeId × Value → H} {W : World} {base : Nat} {sp : Nat → Bool} {fuel : Nat} {cs : List Value} {x : DataW H × List MemPlace}
    (h : DataW.trod enc Tryd.prog W base sp true fuel 31 cs = some x) (hl : cs.length = 32) :
    ∃ l : List Int, l.length = 32 ∧ (∀ y ∈ l, 0 ≤ y ∧ y < 256) ∧ ∀ j, j < 32 → cs[j]? = some (.int .u8 (l.getD j 0)) := by
  obtain ⟨xs, m, _, _, _, hxl, hx⟩ := DataW.trod_array Tryd.underlying31 h
  have key : ∀ i, i < 32 → ∃ k : Int, cs[i]? = some (.int .u8 k) ∧ 0 ≤ k ∧ k < 256 := fun i hi => by
    have e0 := hx i hi
    rw [List.getElem?_eq_getElem (show i < xs.length by omega)] at e0
    obtain ⟨k, hk, _, wk⟩ := DataW.trod_int Tryd.underlying5 e0
    have b := bounds_u8 wk
    simp only [cByte, Nat.mul_one] at hk
    exact ⟨k, of_one cs i _ hk, b.1, by omega⟩
  refine ⟨(List.range 32).map fun i => numOf cs[i]?, by simp, ?_, fun j hj => ?_⟩
  · intro y hy
    obtain ⟨i, hi, rfl⟩ := List.mem_map.1 hy
    obtain ⟨k, hk, b1, b2⟩ := key i (by simpa using hi)
    rw [hk]
    exact ⟨b1, b2⟩
  · obtain ⟨k, hk, _⟩ := key j hj
    have e : ((List.range 32).map fun i => numOf cs[i]?).getD j 0 = k := by simp [List.getD, hj, hk, numOf]
    rw [e, hk]
/-- A list of hashes, opened. -/
theorem open_list {H : Type} {enc : TypeId × Value → H} {W : World} {base b0 : Nat} {sp : Nat → Bool} {v : Value} {d : DataW H} {ps : List MemPlace}
    (hval : Value.okWide Tryd.prog W .any b0 22 v) (h : DataW.Trod enc Tryd.prog W base sp true 22 v d ps) :
    ∃ A c ls, v = .slice A ls.length c ∧ hashes ls ∧ HL W W.heap.size A ls ∧ ls.length ≤ c ∧ c ≤ maxLen := by
  obtain ⟨A, len, cap, rfl⟩ := okWide_slice Tryd.underlying22 hval
  obtain ⟨fuel, hf⟩ := h
  rcases DataW.trod_slice Tryd.underlying22 hf with ⟨hcs, hx⟩ | ⟨a, len', cap', elems, rest, n, _, hcs, hx, hb, hl, hm, hlen, hel, _⟩
  · simp [Value.cells] at hcs
    obtain ⟨rfl, rfl, rfl⟩ := hcs
    exact ⟨none, 0, [], rfl, fun l h => by (cases h), HL.nil _ _ _, Nat.le_refl _, by simp⟩
  · simp [Value.cells] at hcs
    obtain ⟨rfl, rfl, rfl⟩ := hcs
    have each : ∀ i, i < len → ∃ l : List Int, l.length = 32 ∧ (∀ y ∈ l, 0 ≤ y ∧ y < 256) ∧ ∀ j, j < 32 → W.cell? (a.add (i * 32 + j)) = some (.int .u8 (l.getD j 0)) := fun i hi => by
      have e0 := hel i hi
      rw [List.getElem?_eq_getElem (show i < elems.length by omega), Option.bind_eq_some_iff, cHash] at e0
      obtain ⟨cs, hc, ht⟩ := e0
      obtain ⟨_, hcl, hcc⟩ := World.cells?_some hc
      obtain ⟨l, h1, h2, h3⟩ := hash_cells ht hcl
      refine ⟨l, h1, h2, fun j hj => ?_⟩
      rw [← add_of_add, hcc j hj]
      exact h3 j hj
    have hex : ∃ f : Nat → List Int, ∀ i, i < len → (f i).length = 32 ∧ (∀ y ∈ f i, 0 ≤ y ∧ y < 256) ∧ ∀ j, j < 32 → W.cell? (a.add (i * 32 + j)) = some (.int .u8 ((f i).getD j 0)) :=
      ⟨fun i => if h : i < len then (each i h).choose else [], fun i hi => by simp only [dif_pos hi]; exact (each i hi).choose_spec⟩
    obtain ⟨f, hf⟩ := hex
    have hll : ((List.range len).map f).length = len := by simp
    refine ⟨some a, cap, (List.range len).map f, by rw [hll], fun l hl' => ?_, fun i hi => ?_, by rw [hll]; omega, by omega⟩
    · obtain ⟨i, hi, rfl⟩ := List.mem_map.1 hl'
      have := hf i (by simpa using hi)
      exact ⟨this.1, this.2.1⟩
    · rw [hll] at hi
      have hfi := hf i hi
      have e : ((List.range len).map f).getD i [] = f i := by simp [List.getD, hi]
      refine ⟨a, rfl, ?_, fun j hj => ?_⟩
      · have := block_lt_of_cell (hfi.2.2 0 (by omega))
        rwa [block_of_add] at this
      · rw [e]; exact hfi.2.2 j hj
end Go.Proofs.YtfakimbneenfdaaDoor
namespace Go.Proofs.YtfakimbneenfdaaDoor
open Go.ChangeShapes Go.WideShapes Go.ChangeAt Go.RowKit
set_option linter.unusedVariables false
set_option maxRecDepth 100000

theorem cRange : Tryd.prog.cellsOf 24 = 2 := by kernel_rfl
theorem cInt64R : Tryd.prog.cellsOf 3 = 1 := by kernel_rfl
theorem cListR : Tryd.prog.cellsOf 22 = 1 := by kernel_rfl
/-- A list's one cell, opened. -/
theorem list_cell {H : Type} {enc : TypeId × Value → H} {W : World} {base fuel : Nat} {sp : Nat → Bool} {cs : List Value} {x : DataW H × List MemPlace}
    (hf : DataW.trod enc Tryd.prog W base sp true fuel 22 cs = some x) :
    ∃ A c ls, cs = [.slice A ls.length c] ∧ hashes ls ∧ HL W W.heap.size A ls ∧ ls.length ≤ c ∧ c ≤ maxLen := by
  rcases DataW.trod_slice Tryd.underlying22 hf with ⟨hcs, hx⟩ | ⟨a, len, cap, elems, rest, n, _, hcs, hx, hb, hl, hm, hlen, hel, _⟩
  · exact ⟨none, 0, [], hcs, fun l h => by (cases h), HL.nil _ _ _, Nat.le_refl _, by simp⟩
  · have each : ∀ i, i < len → ∃ l : List Int, l.length = 32 ∧ (∀ y ∈ l, 0 ≤ y ∧ y < 256) ∧ ∀ j, j < 32 → W.cell? (a.add (i * 32 + j)) = some (.int .u8 (l.getD j 0)) := fun i hi => by
      have e0 := hel i hi
      rw [List.getElem?_eq_getElem (show i < elems.length by omega), Option.bind_eq_some_iff, cHash] at e0
      obtain ⟨cs, hc, ht⟩ := e0
      obtain ⟨_, hcl, hcc⟩ := World.cells?_some hc
      obtain ⟨l, h1, h2, h3⟩ := hash_cells ht hcl
      refine ⟨l, h1, h2, fun j hj => ?_⟩
      rw [← add_of_add, hcc j hj]
      exact h3 j hj
    have hex : ∃ f : Nat → List Int, ∀ i, i < len → (f i).length = 32 ∧ (∀ y ∈ f i, 0 ≤ y ∧ y < 256) ∧ ∀ j, j < 32 → W.cell? (a.add (i * 32 + j)) = some (.int .u8 ((f i).getD j 0)) :=
      ⟨fun i => if h : i < len then (each i h).choose else [], fun i hi => by simp only [dif_pos hi]; exact (each i hi).choose_spec⟩
    obtain ⟨f, hf⟩ := hex
    have hll : ((List.range len).map f).length = len := by simp
    refine ⟨some a, cap, (List.range len).map f, by rw [hll]; exact hcs, fun l hl' => ?_, fun i hi => ?_, by rw [hll]; omega, by omega⟩
    · obtain ⟨i, hi, rfl⟩ := List.mem_map.1 hl'
      have := hf i (by simpa using hi)
      exact ⟨this.1, this.2.1⟩
    · rw [hll] at hi
      have hfi := hf i hi
      have e : ((List.range len).map f).getD i [] = f i := by simp [List.getD, hi]
      refine ⟨a, rfl, ?_, fun j hj => ?_⟩
      · have := block_lt_of_cell (hfi.2.2 0 (by omega))
        rwa [block_of_add] at this
      · rw [e]; exact hfi.2.2 j hj
/-- A range, opened. -/
theorem open_range {H : Type} {enc : TypeId × Value → H} {W : World} {base b0 : Nat} {sp : Nat → Bool} {v : Value} {d : DataW H} {ps : List MemPlace}
    (hval : Value.okWide Tryd.prog W .any b0 24 v) (h : DataW.Trod enc Tryd.prog W base sp true 24 v d ps) :
    ∃ (s : Int) (A : Option Addr) (c : Nat) (hs : List (List Int)), v = .agg #[.int .i64 s, .slice A hs.length c] ∧ (-9223372036854775808 ≤ s ∧ s ≤ 9223372036854775807) ∧ hashes hs ∧ HL W W.heap.size A hs ∧ hs.length ≤ c ∧ c ≤ maxLen := by
  obtain ⟨cs, rfl, hsz⟩ := okWide_struct Tryd.underlying24 hval
  rw [cRange] at hsz
  obtain ⟨fuel, hf⟩ := h
  obtain ⟨xs, m, _, _, _, hl, hx⟩ := DataW.trod_struct Tryd.underlying24 hf
  have hl2 : xs.length = 2 := hl
  have e0 : DataW.trod enc Tryd.prog W base sp true m 3 ((cs.toList.drop 0).take (Tryd.prog.cellsOf 3)) = xs[0]? := hx 0 _ rfl
  have e1 : DataW.trod enc Tryd.prog W base sp true m 22 ((cs.toList.drop 1).take (Tryd.prog.cellsOf 22)) = xs[1]? := hx 1 _ rfl
  rw [List.getElem?_eq_getElem (show 0 < xs.length by omega)] at e0
  rw [List.getElem?_eq_getElem (show 1 < xs.length by omega)] at e1
  rw [cInt64R] at e0
  rw [cListR] at e1
  obtain ⟨s, hs0, _, ws⟩ := DataW.trod_int Tryd.underlying3 e0
  obtain ⟨A, c, hs, hA, h1, h2, h3, h4⟩ := list_cell e1
  have bs := bounds_i64 ws
  refine ⟨s, A, c, hs, ?_, by omega, h1, h2, h3, h4⟩
  congr 1
  apply Array.ext_getElem?
  intro k
  have f0 := of_one cs.toList 0 _ hs0
  have f1 := of_one cs.toList 1 _ hA
  rw [Array.getElem?_toList] at f0 f1
  match k with
  | 0 => rw [f0]; rfl
  | 1 => rw [f1]; rfl
  | k + 2 => rw [Array.getElem?_eq_none (by omega), Array.getElem?_eq_none (by simp)]
end Go.Proofs.YtfakimbneenfdaaDoor
namespace Go.Proofs.YtfakimbneenfdaaDoor.tell
open Go.ChangeShapes Go.WideShapes Go.ChangeAt Go.RowKit
open Go.ChangeMaps (open_string)
set_option linter.unusedVariables false

set_option maxRecDepth 100000 in
theorem lifted (os : Os) (started : os.Started) (H : Type) (enc : TypeId × Value → H) :
    ReturnsInHanded {} Tryd.checked os 3 .any (fun w args => (Rows.rangesTellSpec.pre enc Tryd.prog Tryd.f3 [] false w args ∧ laidMetH Tryd.prog laid2 w) ∧ sizedMet enc Tryd.prog Tryd.f3 (OpenSpec.ofChange Rows.rangesTellSpec) false w args)
      (Rows.rangesTellSpec.post enc Tryd.prog Tryd.f3 false true false false) := by
  refine returnsInHanded_of_change_and (C := Tryd.checked) (X := fun w _ => laidMetH Tryd.prog laid2 w) (fun _ _ _ hh h => h.of_heap hh) own started (by kernel_rfl) Tryd.func3
    (ChangeSpec.witness_shaped (enc := enc) (C := Tryd.checked) (os := os) (X := fun w _ => laidMetH Tryd.prog laid2 w) false (World.doorLaid Tryd.prog 400 os) #[.agg #[.int .i64 0, .slice none 0 0], .slice none 0 0, .int .i64 0] 8 rfl (World.shaped_of_RefB (by kernel_rfl) (by kernel_rfl)) (by kernel_rfl) (by kernel_rfl) (by kernel_rfl) (door_met os _)) ?_
  intro W base args ds gs before hval0 hW _ _ hL _
  have hval : ∀ (j : Nat) t v, Tryd.f3.params[j]? = some t → args[j]? = some v → Value.okWide Tryd.prog W .any base t v := hval0
  have hW' := hW
  obtain ⟨p, q, hA0, hV, rfl, hfz, hnd⟩ := hW
  have hA : DataW.TrodAll enc Tryd.prog W 0 (fun _ => true) true Tryd.f3.params.toList args.toList ds p := hA0
  rw [Tryd.params3] at hA hval
  obtain ⟨v0, vs0, d0, ds0, p0, q0, hargs, rfl, rfl, h0, r0⟩ := trodAll_cons hA
  obtain ⟨v1, vs1, d1, ds1, p1, q1, rfl, rfl, rfl, h1, r1⟩ := trodAll_cons r0
  obtain ⟨v2, vs2, d2, ds2, p2, q2, rfl, rfl, rfl, h2, r2⟩ := trodAll_cons r1
  obtain ⟨rfl, rfl, rfl⟩ := trodAll_nil r2
  obtain rfl : args = #[v0, v1, v2] := by cases args; simp_all
  obtain ⟨rfl, rfl⟩ := trodVars_none hV
  have k0 := h0
  have lt0 : ∀ x ∈ p0, x.block < W.heap.size := by obtain ⟨m, hm⟩ := k0; exact DataW.trod_lt m _ _ _ hm
  have k1 := h1
  have lt1 : ∀ x ∈ p1, x.block < W.heap.size := by obtain ⟨m, hm⟩ := k1; exact DataW.trod_lt m _ _ _ hm
  obtain ⟨s0, A0, c0, hs0, rfl, sb0, hh0, hl0, hc0, hm0⟩ := open_range (hval 0 24 v0 rfl rfl) h0
  obtain ⟨A1, c1, ls1, rfl, hh1, hl1, hc1, hm1⟩ := open_list (hval 1 22 v1 rfl rfl) h1
  obtain ⟨n2, rfl, rfl, rfl, w2⟩ := open_int Tryd.underlying3 (hval 2 3 v2 rfl rfl) h2
  have b2 := bounds_i64 w2
  clear hA0 hval0
  refine (telllaw_any s0 sb0 A0 c0 hs0 hh0 A1 c1 ls1 hh1 n2 (by omega) W (of_laid hL) hl0 hl1 hc1 hm1).mono fun e W' ⟨he, bel⟩ => ?_
  subst he
  exact ⟨_, rfl, _, _, _, [], _, [], hW', trodAll_mk1 (shut_bool Tryd.underlying4 _), (trodAll_cons_mk (Below.trod laidOut (by kernel_rfl) (of_decide_eq_true (by kernel_rfl)) k0 bel lt0) (trodAll_cons_mk (Below.trod laidOut (by kernel_rfl) (of_decide_eq_true (by kernel_rfl)) k1 bel lt1) (trodAll_cons_mk (shut_int Tryd.underlying3 w2) trodAll_mk0))), rfl, bel.frame _, fun h => by cases h⟩

theorem over : Rows.RangesTellSaid :=
  OpenClaim.holds_of_wide 3 Tryd.f3 rfl rfl rfl rfl rfl rfl rfl ⟨rfl, rfl, rfl, rfl, rfl⟩ rfl rfl rfl rfl rfl (by kernel_rfl) Tryd.func3 (by kernel_rfl)
    (of_decide_eq_true (by kernel_rfl)) (by unfold Func.isWrapper; first | (rw [if_pos (by decide +kernel)]; kernel_rfl) | (rw [if_neg (by decide +kernel)]; exact ⟨rfl, rfl⟩))
    (fun os started H enc _ => lifted os started H enc)

/-- The statement. -/
theorem proved : Rows.RangesTellCardSaid :=
  Claim7.holds_tied_plain_at .later [] [.data, .data] true _ false
    over (fun _ h => by cases h) (by kernel_rfl) (fun _ h => by cases h) rangesTell_row_tie rfl ⟨rfl, rfl⟩ (by kernel_rfl) rfl
    (fun f fn hf hfn => by
      obtain rfl : f = 3 := Option.some.inj ((show Tryd.prog.funcNamed "speculum/speculumlaw05.RangesTell" = some 3 by kernel_rfl).symm.trans hf) |>.symm
      obtain rfl : fn = Tryd.f3 := (Option.some.inj (Tryd.func3.symm.trans hfn)).symm
      exact ⟨by kernel_rfl, fun j t ht => by
        rw [Tryd.params3] at ht
        have hm : t ∈ [24, 22, 3] := by simpa using Array.mem_of_getElem? ht
        have hall : ([24, 22, 3].all fun u => !Tryd.prog.wantsStandIn u) = true := by kernel_rfl
        exact (show Tryd.prog.wantsStandIn t = false by simpa using List.all_eq_true.1 hall t hm)⟩)
    (by kernel_rfl)
#print axioms proved
end Go.Proofs.YtfakimbneenfdaaDoor.tell
