/-
  Several texts in one (a claim has room for 60 files): KeyVer, KeyProg, HeadProg, TextList.
-/
import Derived.Test.YtpndccoikhejgaaDoorPk32
import Derived.Test.YtpndccoikhejgaaDoorPk23
import Derived.Test.YtpndccoikhejgaaDoorPk37
import Derived.Test.YtpndccoikhejgaaDoorPk21
import Derived.Test.YtpndccoikhejgaaDoorPk34
import Derived.Test.YtpndccoikhejgaaDoorPk36
import Derived.Test.YtpndccoikhejgaaDoorPk30
import Derived.Test.YtpndccoikhejgaaDoorPk31
import Derived.Test.YtpndccoikhejgaaDoorPk04
namespace Go.Proofs.YtpndccoikhejgaaDoor
open Go.RowKit Go.Great
set_option linter.unusedVariables false
set_option maxRecDepth 100000

attribute [local go_sem ↓ high] read_at write_at read_s write_s
set_option maxHeartbeats 4000000 in
theorem keyver_any (root d : List Int) (hr : root.length = 32 ∧ bytes root) (hd : d.length = 32 ∧ bytes d) (i : Int) (h64 : num64 i) (s : ByteArray) (hs : s.size ≤ maxLen) (p : List (List Int)) (hp : hashes p) (A : Option Addr) (c : Nat) (w : World) (hT : Tab w) (hA : HW w A p) (hc : p.length ≤ c) (hcm : c ≤ maxLen) :
    Calls Tryd.prog 41 #[.agg (nums .u8 root), .agg (nums .u8 d), .agg (sealV i s A p.length c)] w fun e w' => e = .returned (.int .i64 (verF root d i s p)) ∧ Below w.heap.size w w' := by
  obtain ⟨n, hn⟩ : ∃ n, Hid (n = p.length) := ⟨_, Lib.hid rfl⟩
  obtain ⟨R, hR⟩ : ∃ R, Hid (R = nums .u8 root) := ⟨_, Lib.hid rfl⟩
  obtain ⟨D, hD⟩ : ∃ D, Hid (D = nums .u8 d) := ⟨_, Lib.hid rfl⟩
  have zR : Hid (R.size = 32) := Lib.hid (by rw [hR.out, nums_size]; exact hr.1)
  have zD : Hid (D.size = 32) := Lib.hid (by rw [hD.out, nums_size]; exact hd.1)
  have H0 := Lib.hid (VfH.start w R D (sealV i s A n c))
  rw [← hn.out, ← hR.out, ← hD.out]
  by_cases h : i < 0 ∨ 7 < i
  · have HV : Hid (verF root d i s p = 2) := Lib.hid (verF_arg h)
    rw [HV.out]
    have KY : Hid (∀ W, Calls Tryd.prog 54 #[.int .i64 i] W fun e w' => e = .returned (.bool false) ∧ W = w') := Lib.hid fun W => isKey8_no i h W
    clear h hr hd h64 hs hp hA hc hcm hn hR hD hT
    go_enter Tryd.func41, Tryd.ntmps41
    go_upto_region 1 with fail
    refine world_gen (fun X => VfH w X R D (sealV i s A n c)) H0.out (fun X HX => ?_)
    have HX := Lib.hid HX
    obtain ⟨c0, c1, c2⟩ := seal_cells HX.out.seal_
    go_wp2_with (go_at_call 54; (with_reducible refine (KY.out _).mono ?_); rintro e w1 ⟨rfl, rfl⟩)
    go_ret
    exact ⟨rfl, HX.out.below⟩
  · have KY : Hid (∀ W, Calls Tryd.prog 54 #[.int .i64 i] W fun e w' => e = .returned (.bool true) ∧ W = w') := Lib.hid fun W => isKey8_yes i (by omega) W
    have HT := Lib.hid hT
    obtain ⟨I, hI⟩ : ∃ I : Nat, i = I := ⟨i.toNat, by omega⟩
    have HVF : Hid (verF root d i s p = if (recF s d).2 = 0 ∧ checkF (recF s d).1 i 8 p root = 0 then 0 else 81) := Lib.hid (by rw [hI]; exact verF_in (by omega))
    obtain ⟨x, hx⟩ : ∃ x, Hid (x = (recF s d).1) := ⟨_, Lib.hid rfl⟩
    obtain ⟨e1, he1⟩ : ∃ e, Hid (e = (recF s d).2) := ⟨_, Lib.hid rfl⟩
    obtain ⟨X1, hX1⟩ : ∃ X, Hid (X = nums .u8 x) := ⟨_, Lib.hid rfl⟩
    have hx32 : Hid (x.length = 32 ∧ bytes x) := Lib.hid (by rw [hx.out]; exact recF_is _ _)
    have zX : Hid (X1.size = 32) := Lib.hid (by rw [hX1.out, nums_size]; exact hx32.out.1)
    have oX : Hid (X1.all (·.oneCell') = true) := Lib.hid (by rw [hX1.out]; exact nums_one _ _)
    obtain ⟨e2, he2⟩ : ∃ e, Hid (e = checkF x i 8 p root) := ⟨_, Lib.hid rfl⟩
    have XR : Hid (∀ W, Tab W → Calls Tryd.prog 62 #[.string s, .agg D] W fun e w' => e = .returned (.tuple #[.agg X1, .int .i64 e1]) ∧ Below W.heap.size W w') := Lib.hid fun W hW => by
      rw [hD.out, hX1.out, hx.out, he1.out]; exact lrecover_any s d W hW hs hd
    have XC : Hid (∀ W, Tab W → Below w.heap.size w W → Calls Tryd.prog 63 #[.agg X1, .int .i64 i, .int .i64 8, .slice A n c, .agg R] W fun e w' => e = .returned (.int .i64 e2) ∧ Below W.heap.size W w') := Lib.hid fun W hW hB => by
      rw [hX1.out, hR.out, he2.out, hn.out]; exact check_any x root hx32.out hr i 8 h64 (by omega) p hp A c W (hA.next hB) hW hc (by unfold maxLen at hcm; omega)
    have HV : Hid (verF root d i s p = if e1 = 0 ∧ e2 = 0 then 0 else 81) := Lib.hid (by rw [HVF.out, ← hx.out, ← he1.out, ← he2.out])
    rw [HV.out]
    clear h hr hd h64 hs hp hA hc hcm hn hR hD hI HVF HV hx he1 he2 hX1 hT
    by_cases q1 : e1 = 0
    · have b1 : (e1 != 0) = false := by simpa using q1
      by_cases q2 : e2 = 0
      · have b2 : (e2 != 0) = false := by simpa using q2
        rw [if_pos ⟨q1, q2⟩]
        clear q1 q2
        go_enter Tryd.func41, Tryd.ntmps41
        go_upto_region 1 with fail
        refine world_gen (fun X => VfH w X R D (sealV i s A n c)) H0.out (fun X HX => ?_)
        have HX := Lib.hid HX
        obtain ⟨c0, c1, c2⟩ := seal_cells HX.out.seal_
        have l1 := HX.out.dig.read zD.out
        go_upto_region 4 with (first
          | (go_at_call 54; (with_reducible refine (KY.out _).mono ?_); rintro e w0 ⟨rfl, rfl⟩)
          | (go_at_call 62; (with_reducible refine (XR.out _ (HT.out.next HX.out.below)).mono ?_); rintro e w1 ⟨rfl, hb⟩; obtain ⟨w2, s2, hr2, hb2, hz2⟩ := made_write w1 X1 zX.out oX.out; have H2 := Lib.hid ((HX.out.next hb).next hb2); have HR2 := Lib.hid hr2; clear hr2 hb2 hz2 hb))
        clear s2 l1 c0 c1 c2 HX H0
        obtain ⟨c0, c1, c2⟩ := seal_cells H2.out.seal_
        have l2 := HR2.out.read zX.out
        have l3 := H2.out.root.read zR.out
        go_wp2_with (go_at_call 63; (with_reducible refine (XC.out _ (HT.out.next H2.out.below) H2.out.below).mono ?_); rintro e w3 ⟨rfl, hb⟩; have H3 := Lib.hid (H2.out.next hb); clear hb)
        go_ret
        exact ⟨rfl, H3.out.below⟩
      · have b2 : (e2 != 0) = true := by simpa using q2
        rw [if_neg (fun h => q2 h.2)]
        clear q1 q2
        go_enter Tryd.func41, Tryd.ntmps41
        go_upto_region 1 with fail
        refine world_gen (fun X => VfH w X R D (sealV i s A n c)) H0.out (fun X HX => ?_)
        have HX := Lib.hid HX
        obtain ⟨c0, c1, c2⟩ := seal_cells HX.out.seal_
        have l1 := HX.out.dig.read zD.out
        go_upto_region 4 with (first
          | (go_at_call 54; (with_reducible refine (KY.out _).mono ?_); rintro e w0 ⟨rfl, rfl⟩)
          | (go_at_call 62; (with_reducible refine (XR.out _ (HT.out.next HX.out.below)).mono ?_); rintro e w1 ⟨rfl, hb⟩; obtain ⟨w2, s2, hr2, hb2, hz2⟩ := made_write w1 X1 zX.out oX.out; have H2 := Lib.hid ((HX.out.next hb).next hb2); have HR2 := Lib.hid hr2; clear hr2 hb2 hz2 hb))
        clear s2 l1 c0 c1 c2 HX H0
        obtain ⟨c0, c1, c2⟩ := seal_cells H2.out.seal_
        have l2 := HR2.out.read zX.out
        have l3 := H2.out.root.read zR.out
        go_wp2_with (go_at_call 63; (with_reducible refine (XC.out _ (HT.out.next H2.out.below) H2.out.below).mono ?_); rintro e w3 ⟨rfl, hb⟩; have H3 := Lib.hid (H2.out.next hb); clear hb)
        go_ret
        exact ⟨rfl, H3.out.below⟩
    · have b1 : (e1 != 0) = true := by simpa using q1
      rw [if_neg (fun h => q1 h.1)]
      clear q1
      go_enter Tryd.func41, Tryd.ntmps41
      go_upto_region 1 with fail
      refine world_gen (fun X => VfH w X R D (sealV i s A n c)) H0.out (fun X HX => ?_)
      have HX := Lib.hid HX
      obtain ⟨c0, c1, c2⟩ := seal_cells HX.out.seal_
      have l1 := HX.out.dig.read zD.out
      go_upto_region 4 with (first
          | (go_at_call 54; (with_reducible refine (KY.out _).mono ?_); rintro e w0 ⟨rfl, rfl⟩)
          | (go_at_call 62; (with_reducible refine (XR.out _ (HT.out.next HX.out.below)).mono ?_); rintro e w1 ⟨rfl, hb⟩; obtain ⟨w2, s2, hr2, hb2, hz2⟩ := made_write w1 X1 zX.out oX.out; have H2 := Lib.hid ((HX.out.next hb).next hb2); have HR2 := Lib.hid hr2; clear hr2 hb2 hz2 hb))
      clear s2 l1 c0 c1 c2 HX H0
      go_wp2
      go_ret
      exact ⟨rfl, H2.out.below⟩
end Go.Proofs.YtpndccoikhejgaaDoor
namespace Go.Proofs.YtpndccoikhejgaaDoor
open Go.RowKit Go.Great
set_option linter.unusedVariables false
set_option maxRecDepth 100000

theorem tree_says : TreeSays treeR where
  next := fun h hb => h.next hb
  new_ := fun seed W hT hs => keynew_any seed W hT hs
  root := fun seed v W hT hv hs => by
    obtain ⟨g, rfl, hM⟩ := hv
    exact keyroot_some g seed (keysF seed) (rootF seed) (rootF_is seed).1 W hM
  sign := fun seed v i d W hT hv hs hi hd => by
    obtain ⟨g, rfl, hM⟩ := hv
    exact keysign_some g seed hs i hi d hd W hT hM
  ver := fun root d i s p A c W hT hr hd hi hs hp hA hc hcm => keyver_any root d hr hd i hi s hs p hp A c W hT hA hc hcm
theorem none_says (v : Value) (OK : World → Prop) (hn : ∀ {W W1 : World}, OK W → Below W.heap.size W W1 → OK W1) (h : ∀ W, OK W → Calls Tryd.prog 53 #[v] W fun e w' => e = .returned (.bool true) ∧ W = w') : NoneSays v OK := fun i d W hW hi hd =>
  ⟨keysign_none v i d hd W (fun X hX => h X (hn hW hX)), keyroot_none v W (fun X hX => h X (hn hW hX))⟩
theorem none_nil : NoneSays (.pointer none) (fun _ => True) := none_says _ _ (fun _ _ => trivial) (fun W _ => isNone_nil W)
theorem none_zero (g : Nat) : NoneSays (.pointer (some ⟨g, 0, none⟩)) (fun W => Row W g 82 (treeZ false ⟨#[]⟩)) := none_says _ _ (fun h hb => h.next hb) (fun W h => isNone_at g false W ((h.cell 0).trans (treeZ_made _ _)))
end Go.Proofs.YtpndccoikhejgaaDoor
namespace Go.Proofs.YtpndccoikhejgaaDoor
open Go.RowKit Go.Great
set_option linter.unusedVariables false
set_option maxRecDepth 100000

theorem HeadIn.len63 {W : World} {x : Sh} {A : Option Addr} {c : Nat} (h : HeadIn W x A c) : x.path.length ≤ 9223372036854775807 := Nat.le_trans h.len (Nat.le_trans h.cap (by decide))
theorem head_says : HeadSays where
  digest := fun s r W hT h64 hr => headDigest_any s h64 r hr W hT
  valid := fun x A c W hT h => headValid_any x h.fits.1.1 A c W
  same := fun x y A B c d W hT h1 h2 => headSame_any x y h1.fits h2.fits h1.len63 h2.len63 A B c d W h1.lst h2.lst
  put := fun x A c W hT h => headPut_any x h.fits A c W h.lst
  get := fun s W hT hs => headGet_any s hs W
  check := fun key x A c W hT hk h => headCheck_any tree_says key hk x h.fits h.size h.index h.sig A c W h.lst hT h.len h.cap
  order := fun s s' r r' W hT h1 h2 hr hr' => headOrder_any s s' r r' hr hr' W
end Go.Proofs.YtpndccoikhejgaaDoor
namespace Go.Proofs.YtpndccoikhejgaaDoor
open Go.RowKit Go.Great
set_option linter.unusedVariables false
set_option maxRecDepth 100000

theorem infoText : (Tryd.prog.info? 9).map (fun i => (i.zero, i.size, i.bytes)) = some (some (.string ⟨#[]⟩), 1, 16) := by kernel_rfl
/-- Texts as cells. -/
def cellsT (ts : List ByteArray) : List Value := ts.map Value.string
theorem cellsT_one (ts : List ByteArray) : ∀ v ∈ cellsT ts, v.oneCell' = true := fun v hv => by obtain ⟨s, _, rfl⟩ := List.mem_map.1 hv; rfl
theorem cellsT_get (ts : List ByteArray) (j : Nat) : (cellsT ts)[j]? = ts[j]?.map Value.string := by unfold cellsT; rw [List.getElem?_map]
theorem cellsT_app (ts us : List ByteArray) : cellsT (ts ++ us) = cellsT ts ++ cellsT us := by unfold cellsT; rw [List.map_append]
/-- A slice literal of texts. -/
theorem wpList_buildTexts {ops : Array Oper} {rest : List Oper} {o : Oper} {a : Act} {w : World} {Q : Exit → Act → World → Prop} (hg : o.guard = none) (n : Nat) (parts : Array (Nat × Operand)) (ho : o.op = .buildSlice 47 n parts)
    (ts : List ByteArray) (hn : n = ts.length) (h0 : 0 < n) (hsm : n ≤ 1000)
    (hp : (parts.toList.map fun (i, x) => (i, a.eval x)) = ((cellsT ts).zipIdx 0).map fun x => (x.2, x.1))
    (h : wpList Tryd.prog ops Q rest (a.put o.dst (.slice (some ⟨w.heap.size, 0, none⟩) n n)) (w.alloc (.cells (cellsT ts).toArray 9))) : wpList Tryd.prog ops Q (o :: rest) a w := by
  obtain ⟨i0, hi, hz0, hz1, hz2⟩ := info_parts infoText
  refine wpList_buildSlice hg 47 9 n parts ho _ i0 _ Tryd.underlying47 hi hz0 (by rw [hz1]; omega) (by rw [hz1]; omega) ?_ h
  rw [Array.toList_map, hp, hz1]
  exact Great.fill_flat _ _ (fun v hv => by obtain ⟨s, _, rfl⟩ := List.mem_map.1 hv; rfl) (by simp [cellsT, hn])
/-- .. is one's own. -/
theorem own_texts {W : World} {B g : Nat} {ts : List ByteArray} (h : Row W g 9 (cellsT ts).toArray) (hB : B ≤ g) (hsm : ts.length ≤ 1000) : W.ownsRow B 9 1 (.slice (some ⟨g, 0, none⟩) ts.length ts.length) ts.length (cellsT ts) :=
  ⟨by simp [cellsT], .inr ⟨g, ts.length, _, rfl, hB, h, Nat.le_refl _, by unfold maxLen; omega, by simp [cellsT], by rw [Nat.mul_one]; exact List.take_of_length_le (by simp [cellsT])⟩⟩
/-- A text is appended. -/
theorem wpList_appendText {ops : Array Oper} {rest : List Oper} {o : Oper} {a : Act} {w : World} {Q : Exit → Act → World → Prop} (hgd : o.guard = none) (s x : Operand) (ho : o.op = .call { callee := .builtin .append, args := #[s, x], argTypes := #[47, 47] })
    (B : Nat) (v : Value) (n : Nat) (ts : List ByteArray) (hsv : a.eval s = v) (hown : w.ownsRow B 9 1 v n (cellsT ts)) (g : Nat) (u : ByteArray) (hx : a.eval x = .slice (some ⟨g, 0, none⟩) 1 1) (hU : Row w g 9 (cellsT [u]).toArray) (hsm : n ≤ 1000) (hB : B ≤ w.heap.size)
    (h : ∀ v' w', w'.ownsRow B 9 1 v' (n + 1) (cellsT (ts ++ [u])) → w.grownBy w' v.ownBlock → wpList Tryd.prog ops Q rest (a.put o.dst v') w') : wpList Tryd.prog ops Q (o :: rest) a w := by
  obtain ⟨i0, hi, hz0, hz1, hz2⟩ := info_parts infoText
  refine wpList_plain hgd fun K hK => ?_
  refine wp_append_own _ s x 47 ho B 9 i0 _ 1 16 Tryd.underlying47 hi hz0 hz1 hz2 (by simp [Value.cells]) (by decide) v n (cellsT ts) hsv hown ⟨g, 0, none⟩ 1 1 (cellsT [u]) hx (by simp [cellsT]) (fun j y hj => ?_) (cellsT_one _) (by unfold maxLen; omega) (by omega) hB (fun v' w' h1 h2 _ => hK _ _ (h v' w' ?_ h2))
  · rw [add_flat, hU.cell]
    simpa using hj
  · rw [cellsT_app]; exact h1
/-- A text of one's own slice. -/
theorem own_text {W : World} {B n : Nat} {v : Value} {ts : List ByteArray} (h : W.ownsRow B 9 1 v n (cellsT ts)) (hn : 0 < n) : n = ts.length ∧ ∃ g cap, v = .slice (some ⟨g, 0, none⟩) n cap ∧ B ≤ g ∧ n ≤ cap ∧ cap ≤ maxLen ∧ ∀ j s, ts[j]? = some s → W.cell? ⟨g, j, none⟩ = some (.string s) := by
  obtain ⟨h1, h2⟩ := h
  have hl : n = ts.length := by simpa [cellsT] using h1.symm
  refine ⟨hl, ?_⟩
  rcases h2 with ⟨_, h0⟩ | ⟨g, cap, cur, hv, hB, hr, hc, hm, hz, ht⟩
  · omega
  · refine ⟨g, cap, hv, hB, hc, hm, fun j s hj => ?_⟩
    have hjn : j < n := by rw [hl]; exact (List.getElem?_eq_some_iff.1 hj).1
    rw [cell_of_row W g j cur 9 (0, 0) hr]
    have e : (cur.toList.take (n * 1))[j]? = (cellsT ts)[j]? := by rw [ht]
    rw [List.getElem?_take, if_pos (by omega), Array.getElem?_toList, cellsT_get, hj] at e
    exact e
end Go.Proofs.YtpndccoikhejgaaDoor
