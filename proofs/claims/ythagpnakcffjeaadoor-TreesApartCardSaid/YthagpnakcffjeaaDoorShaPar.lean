/-
  The walks of sha.Parse and of the document's Parse (layer 2): the hash of a text, or none. Condition: a text is not longer than a text can be. What they make is new memory; nothing that was there changes.
-/
import Derived.Test.YthagpnakcffjeaaDoorHexMath
import Derived.BigRegion
import Derived.Deep.DeepCutAuto
import Derived.Laws.ResultCell
namespace Go.Proofs.YthagpnakcffjeaaDoor
open Go.RowKit
set_option linter.unusedVariables false

theorem index_digF : ∀ n : Fin 256, Lib.indexByte [48, 49, 50, 51, 52, 53, 54, 55, 56, 57, 97, 98, 99, 100, 101, 102] (UInt8.ofNat n.val) = dig ((n.val : Nat) : Int) := by
  unfold dig
  decide +kernel
theorem index_dig (c : UInt8) : Lib.indexByte [48, 49, 50, 51, 52, 53, 54, 55, 56, 57, 97, 98, 99, 100, 101, 102] c = dig (c.toNat : Int) := by
  have h := index_digF ⟨c.toNat, c.toNat_lt⟩
  simpa using h
theorem find_any (c : UInt8) (w : World) : Calls Tryd.prog 32 #[.string ⟨#[48, 49, 50, 51, 52, 53, 54, 55, 56, 57, 97, 98, 99, 100, 101, 102]⟩, .int .u8 (c.toNat : Int)] w fun e w' => e = .returned (.int .i64 (dig (c.toNat : Int))) ∧ w = w' :=
  (Tryd.strings_IndexByte ⟨#[48, 49, 50, 51, 52, 53, 54, 55, 56, 57, 97, 98, 99, 100, 101, 102]⟩ (c.toNat : Int) w).mono fun e w' ⟨h1, h2⟩ => ⟨by
    rw [h1]
    have := index_dig c
    simpa using this, h2.symm⟩
theorem digB_at (s : ByteArray) (i : Nat) (h : i < s.size) : dig ((s[i].toNat : Nat) : Int) = digB s i := by
  unfold digB; rw [get_elem s i h]
/-- What the 32 bytes are behind i letters. -/
def parCell (s : ByteArray) (i j : Nat) : Int := if 2 * j + 1 < i then pairB s j else if 2 * j < i then digB s (2 * j) else 0
def parRow (s : ByteArray) (i : Nat) : List Int := (List.range 32).map (parCell s i)
theorem parRow_length (s : ByteArray) (i : Nat) : (parRow s i).length = 32 := by simp [parRow]
theorem parRow_get (s : ByteArray) (i j : Nat) (h : j < 32) : (parRow s i).getD j 0 = parCell s i j := by
  simp [parRow, List.getD, h]
theorem parRow_set (s : ByteArray) (i : Nat) (v : Int) (h : i < 64) (hv : v = parCell s (i + 1) (i / 2)) : (parRow s i).set (i / 2) v = parRow s (i + 1) := by
  apply List.ext_getElem
  · simp [parRow]
  · intro j h1 h2
    simp only [parRow, List.getElem_set, List.getElem_map, List.getElem_range]
    by_cases e : i / 2 = j
    · subst e; rw [if_pos rfl]; exact hv
    · rw [if_neg e]
      unfold parCell
      by_cases a1 : 2 * j + 1 < i
      · rw [if_pos a1, if_pos (by omega)]
      · by_cases a2 : 2 * j < i
        · exact absurd a2 (by omega)
        · rw [if_neg a1, if_neg a2, if_neg (by omega), if_neg (by omega)]
theorem parL_range (s : ByteArray) (n : Nat) : parL s n = (List.range n).map (pairB s) := by
  induction n with
  | zero => rfl
  | succ n ih => simp [parL, ih, List.range_succ]
theorem parRow_all (s : ByteArray) : parRow s 64 = parL s 32 := by
  rw [parL_range]
  unfold parRow
  apply List.map_congr_left
  intro j hj
  have : j < 32 := by simpa using hj
  unfold parCell; rw [if_pos (by omega)]
theorem parRow_zero (s : ByteArray) : parRow s 0 = List.replicate 32 0 := by
  unfold parRow
  apply List.ext_getElem
  · simp
  · intro j h1 h2
    rw [List.getElem_replicate]
    simp [parCell]
def ParHead (w wr : World) (l : List Int) : Prop := Row wr w.heap.size 24 (nums .u8 zero32) ∧ Row wr (w.heap.size + 1) 24 (nums .u8 l) ∧ Below w.heap.size w wr
theorem ParHead.start (w : World) : ParHead w ((w.alloc (.cells (nums .u8 zero32) 24)).alloc (.cells (nums .u8 zero32) 24)) zero32 :=
  ⟨(Row.made _ _ _).alloc _, Row.made2 _ _ _ _, ((Below.refl _ _).alloc (Nat.le_refl _) _).alloc (by simp) _⟩
theorem size32p (l : List Int) (h : l.length = 32) : (Tryd.prog.info? 24).map (·.size) = some (nums .u8 l).size := by rw [nums_size, h]; kernel_rfl
theorem results_row2 {P : Program} {fn : Func} {p u : Tmp} {ty : TypeId} (h : fn.results = #[.cell p ty, .tmp u]) (tmps : Array Value) (w : World) (g : Nat) (t : TypeId) (cs : Array Value) (fr : Nat × Nat) (d : TypeDesc)
    (hp : tmps.getD p undef = .pointer (some ⟨g, 0, none⟩)) (hg : w.heap[g]? = some (.cells cs t fr)) (hu : P.underlying ty = some d) (hd : (match d with | .struct _ | .array _ _ => true | _ => false) = true) (hi : (P.info? ty).map (·.size) = some cs.size) :
    (results fn tmps).run P w = .ok (.tuple #[.agg cs, tmps.getD u undef]) w := by
  rw [results_cell_tmp h, hp]
  simp [asAddr, run_loadVar_row w g t ty cs fr d hg hu hd hi, Result.andThen]
theorem parCell_half (s : ByteArray) (i : Nat) (hi : i < 64) (ho : okUpto s i = true) : 0 ≤ parCell s i (i / 2) ∧ parCell s i (i / 2) ≤ 15 := by
  unfold parCell
  by_cases e : 2 * (i / 2) < i
  · rw [if_neg (by omega), if_pos e]
    have h1 := okUpto_at s i ho (2 * (i / 2)) e
    have h2 := dig_bd ((s.get! (2 * (i / 2))).toNat : Int)
    exact ⟨h1, h2.2⟩
  · rw [if_neg (by omega), if_neg e]; omega
theorem parCell_next (s : ByteArray) (i : Nat) : 16 * parCell s i (i / 2) + digB s i = parCell s (i + 1) (i / 2) := by
  unfold parCell pairB
  by_cases e : 2 * (i / 2) < i
  · have e2 : 2 * (i / 2) + 1 = i := by omega
    rw [if_neg (by omega), if_pos e, if_pos (by omega), e2]
  · have e2 : 2 * (i / 2) = i := by omega
    rw [if_neg (by omega), if_neg e, if_neg (by omega), if_pos (by omega), e2]; omega
theorem ParHead.next {w wr : World} {s : ByteArray} {i : Nat} (H : ParHead w wr (parRow s i)) (hi : i < 64) : ParHead w (wr.setCell ⟨w.heap.size + 1, i / 2, none⟩ (.int .u8 (16 * parCell s i (i / 2) + digB s i))) (parRow s (i + 1)) := by
  have h1 := H.2.1.numPut (i / 2) (16 * parCell s i (i / 2) + digB s i)
  rw [parRow_set s i _ hi (parCell_next s i)] at h1
  exact ⟨H.1.far (by simp) _, h1, H.2.2.setCell (by simp) _⟩
theorem okS_short (s : ByteArray) (h : s.size ≠ 64) : okS s = false := by simp [okS, h]
theorem okS_bad (s : ByteArray) (i : Nat) (hi : i < 64) (h : digB s i < 0) : okS s = false := by simp [okS, okUpto_no s 64 i hi h]
theorem okS_good (s : ByteArray) (h : s.size = 64) (ho : okUpto s 64 = true) : okS s = true := by simp [okS, h, ho]
theorem parse_none (s : ByteArray) (h : okS s = false) : parseL s = zero32 := by simp [parseL, h]
theorem parse_some (s : ByteArray) (h : okS s = true) : parseL s = parL s 32 := by simp [parseL, h]
theorem ret_par {l m : List Int} {b c : Bool} (h : l = m) (hb : b = c) : Ending.returned (.tuple #[.agg (nums .u8 l), .bool b]) = .returned (.tuple #[.agg (nums .u8 m), .bool c]) := by rw [h, hb]
theorem or_dig (x d : Int) (hx : 0 ≤ x ∧ x ≤ 15) (hd : 0 ≤ d ∧ d ≤ 15) : bits .or .u8 (x * 16) d = 16 * x + d := by
  obtain ⟨a, rfl⟩ : ∃ a : Nat, x = a := ⟨x.toNat, by omega⟩
  obtain ⟨b, rfl⟩ : ∃ b : Nat, d = b := ⟨d.toNat, by omega⟩
  rw [show (a : Int) * 16 = ((a * 16 : Nat) : Int) by omega, u8_or_nat _ _ (by omega) (by omega), nat_join 4 _ _ (by omega) (by omega)]
  omega
theorem ParHead.off {w wr : World} {l : List Int} (H : ParHead w wr l) : Below w.heap.size w (wr.setRow w.heap.size (nums .u8 zero32)) := below_setRow H.2.2 (Nat.le_refl _)
set_option maxHeartbeats 4000000 in
set_option maxRecDepth 100000 in
theorem parse_any (s : ByteArray) (hs : s.size ≤ maxLen) (w : World) :
    Calls Tryd.prog 13 #[.string s] w fun ev w' => ev = .returned (.tuple #[.agg (nums .u8 (parseL s)), .bool (okS s)]) ∧ Below w.heap.size w w' := by
  have H0 := Lib.hid (ParHead.start w)
  unfold maxLen at hs
  have h6 := Lib.hid (size32p zero32 rfl)
  have h3 := nums_one .u8 zero32
  go_enter Tryd.func13, Tryd.ntmps13
  go_upto_region 1 with fail
  go_cut [4] (fun s4 wx => s4 = .pointer (some ⟨w.heap.size + 1, 0, none⟩) ∧ Hid (ParHead w wx zero32))
  case first =>
    go_wp2_with fail
    go_meet
    exact ⟨rfl, H0⟩
  case rest =>
    obtain ⟨rfl, HH⟩ := hcut
    have h1 := HH.out.1
    by_cases h64 : s.size = 64
    · have HS := Lib.hid h64
      have hle : s.size ≤ 64 := by omega
      have hge : 64 ≤ s.size := by omega
      have hne : ((s.size : Int) != 64) = false := by simp; omega
      have HH2 : Hid (ParHead w wc (parRow s 0)) := Lib.hid (by rw [parRow_zero]; exact HH.out)
      clear h64 HH h1
      go_wp2
      go_loopw [5, 6, 13] (fun _ _ i wr => ∃ k : Nat, k ≤ 64 ∧ i = .int .i64 k ∧ Hid (ParHead w wr (parRow s k)) ∧ Hid (okUpto s k = true)) (fun _ _ i _ => (64 - intOf i).toNat)
      case atStart => exact ⟨0, by omega, rfl, HH2, Lib.hid rfl⟩
      case round =>
        clear HH2
        obtain ⟨k, hk, rfl, HK, HO⟩ := hrel
        by_cases hlt : k < 64
        · have hks : k < s.size := by omega
          obtain ⟨d, hd⟩ : ∃ d, Hid (d = digB s k) := ⟨_, Lib.hid rfl⟩
          obtain ⟨c, hc⟩ : ∃ c, Hid (c = s[k]) := ⟨_, Lib.hid rfl⟩
          have hdc : Hid (dig (c.toNat : Int) = d) := Lib.hid (by rw [hc.out, hd.out, digB_at s k hks])
          have hbd := dig_bd (c.toNat : Int)
          rw [hdc.out] at hbd
          have hfind : ∀ W, Calls Tryd.prog 32 #[.string ⟨#[48, 49, 50, 51, 52, 53, 54, 55, 56, 57, 97, 98, 99, 100, 101, 102]⟩, .int .u8 ((s[k]).toNat : Int)] W fun e w' => e = .returned (.int .i64 d) ∧ W = w' := fun W => by
            rw [← hdc.out, hc.out]; exact find_any _ W
          have HF := Lib.hid hfind
          clear hfind
          have h1 := HK.out.1
          by_cases hneg : d < 0
          · have HN := Lib.hid (okS_bad s k hlt (by rw [← hd.out]; exact hneg))
            go_wp2_with (first
              | (go_at_call 32; (with_reducible refine (HF.out _).mono ?_); rintro e w' ⟨rfl, rfl⟩)
              | (refine wpList_store_row rfl 24 _ _ rfl w.heap.size (nums .u8 zero32) rfl rfl 24 _ h1 h6.out rfl h3 ?_))
            refine bodyPost_ret (results_row2 (p := 2) (u := 3) rfl _ _ w.heap.size 24 _ (0, 0) _ rfl (h1.whole _) Tryd.underlying24 rfl h6.out) rfl ⟨?_, HK.out.off⟩
            exact ret_par (parse_none s HN.out).symm HN.out.symm
          · have g0 : 0 ≤ d := by omega
            obtain ⟨x, hx⟩ : ∃ x, Hid (x = parCell s k (k / 2)) := ⟨_, Lib.hid rfl⟩
            have hxb := parCell_half s k hlt HO.out
            rw [← hx.out] at hxb
            have hcell := HK.out.2.1.num (i := k / 2) (by rw [parRow_length]; omega)
            rw [parRow_get s k (k / 2) (by omega), ← hx.out] at hcell
            have hfree := HK.out.2.1.free (k / 2)
            go_wp2_with (go_at_call 32; (with_reducible refine (HF.out _).mono ?_); rintro e w' ⟨rfl, rfl⟩)
            go_roundw
            case rel =>
              have h := HK.out.next hlt
              rw [← hx.out, ← hd.out, ← or_dig x d hxb ⟨g0, hbd.2⟩] at h
              exact ⟨k + 1, by omega, by go_num, Lib.hid h, Lib.hid (by simp only [okUpto, HO.out, ← hd.out, Bool.true_and]; exact decide_eq_true g0)⟩
            case measure => simp [intOf]; omega
        · have hk9 : Hid (k = 64) := Lib.hid (by omega)
          have hend : ¬ k < s.size := by omega
          have hend2 : s.size ≤ k := by omega
          have hrow : Hid (parRow s k = parL s 32) := Lib.hid (by rw [hk9.out]; exact parRow_all s)
          have HG := Lib.hid (okS_good s HS.out (by have h := HO.out; rw [hk9.out] at h; exact h))
          have h1 := HK.out.1
          have h2 := HK.out.2.1
          have h7 := size32p (parRow s k) (parRow_length s k)
          have h8 : Hid ((nums .u8 zero32).size = (nums .u8 (parRow s k)).size) := Lib.hid (by rw [nums_size, nums_size, parRow_length]; rfl)
          have h9 := nums_one .u8 (parRow s k)
          go_wp2_with (first
            | (refine wpList_load_row rfl 24 _ rfl (w.heap.size + 1) rfl 24 _ (0, 0) _ h2 Tryd.underlying24 rfl h7 ?_)
            | (refine wpList_store_row rfl 24 _ _ rfl w.heap.size _ rfl rfl 24 _ h1 h7 h8.out h9 ?_))
          refine bodyPost_ret (results_row2 (p := 2) (u := 3) rfl _ _ w.heap.size 24 _ (0, 0) _ rfl (h1.whole _) Tryd.underlying24 rfl h7) rfl ⟨?_, below_setRow HK.out.2.2 (Nat.le_refl _)⟩
          exact ret_par (by rw [hrow.out]; exact (parse_some s HG.out).symm) HG.out.symm
    · have HN := Lib.hid (okS_short s h64)
      have hne : ((s.size : Int) != 64) = true := by simp; omega
      go_wp2_with (refine wpList_store_row rfl 24 _ _ rfl w.heap.size (nums .u8 zero32) rfl rfl 24 _ h1 h6.out rfl h3 ?_)
      refine bodyPost_ret (results_row2 (p := 2) (u := 3) rfl _ _ w.heap.size 24 _ (0, 0) _ rfl (h1.whole _) Tryd.underlying24 rfl h6.out) rfl ⟨?_, HH.out.off⟩
      exact ret_par (parse_none s HN.out).symm HN.out.symm
end Go.Proofs.YthagpnakcffjeaaDoor
