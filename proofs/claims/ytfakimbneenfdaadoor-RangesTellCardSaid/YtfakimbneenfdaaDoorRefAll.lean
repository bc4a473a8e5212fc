/-
  Several texts in one, for a claim has room for 60 files: RefTurn, Got, RefPad, RefSumMath, RefSum, TreeRefHash, TreeRefNode, TreeRefRoot.
-/
import Derived.Test.YtfakimbneenfdaaDoorRot
import Derived.Test.YtfakimbneenfdaaDoorText
import Derived.ArgAppend
import Derived.Lib.ConvBytes
import Derived.Test.YtfakimbneenfdaaDoorShaMath
import Derived.Test.YtfakimbneenfdaaDoorShaSum
import Derived.Test.YtfakimbneenfdaaDoorTextAt
import Derived.Great.BuildSlice
import Derived.StillTailTactics
import Derived.Deep.DeepCutAuto
import Derived.Test.YtfakimbneenfdaaDoorTreeNode
import Derived.Test.YtfakimbneenfdaaDoorTreeSplit
namespace Go.Proofs.YtfakimbneenfdaaDoor
open Go.RowKit
set_option linter.unusedVariables false

theorem turn_of (x : Int) (k : Nat) (h : 0 ≤ x ∧ x < 4294967296) (h1 : 1 ≤ k) (h2 : k ≤ 31) :
    bits .or .u32 (x / 2 ^ k) (x * 2 ^ (32 - k) % 4294967296) = Math.rot x (-(k : Int)) := by
  have e := rot_of x (-(k : Int)) (32 - k) h (by omega) (by omega)
  rw [show 32 - (32 - k) = k by omega] at e
  rw [← e]
  obtain ⟨n, rfl⟩ : ∃ n : Nat, x = n := ⟨x.toNat, by omega⟩
  have hn : n < 4294967296 := by omega
  have e1 : (n : Int) * 2 ^ (32 - k) % 4294967296 = ((n * 2 ^ (32 - k) % 4294967296 : Nat) : Int) := by
    rw [Int.natCast_emod, Int.natCast_mul, Int.natCast_pow]; rfl
  have e2 : (n : Int) / 2 ^ k = ((n / 2 ^ k : Nat) : Int) := by
    rw [Int.natCast_ediv, Int.natCast_pow]; rfl
  have l2 : n / 2 ^ k < 4294967296 := Nat.lt_of_le_of_lt (Nat.div_le_self _ _) hn
  rw [e1, e2, u32_or_nat _ _ (by omega) (by omega), u32_or_nat _ _ (by omega) (by omega), Nat.or_comm]
set_option maxHeartbeats 400000 in
theorem turn_any (x : Int) (k : Nat) (w : World) (h : 0 ≤ x ∧ x < 4294967296) (h1 : 1 ≤ k) (h2 : k ≤ 31) :
    Calls Tryd.prog 63 #[.int .u32 x, .int .u32 (k : Int)] w fun e w' => e = .returned (.int .u32 (Math.rot x (-(k : Int)))) ∧ w = w' := by
  have HO := Lib.hid (turn_of x k h h1 h2)
  have hw : IntKind.u32.wrap (32 - (k : Int)) = ((32 - k : Nat) : Int) := by rw [IntKind.wrap_u32]; omega
  have ht : (32 - (k : Int)).toNat = 32 - k := by omega
  go_enter Tryd.func63, Tryd.ntmps63
  go_wp2
  go_ret
  refine ⟨ret_u32 ?_, rfl⟩
  exact HO.out
#print axioms turn_any
end Go.Proofs.YtfakimbneenfdaaDoor
namespace Go.Proofs.YtfakimbneenfdaaDoor
open Go.RowKit
set_option linter.unusedVariables false

theorem info_byte : (Tryd.prog.info? 5).map (fun i => (i.zero, i.size, i.bytes)) = some (some (.int .u8 0), 1, 1) := by kernel_rfl
/-- Block g, of capacity cap, begins with the m bytes l; none of its cells is frozen; it is no older than B. -/
def Got (w : World) (B g cap : Nat) (l : List Int) (m : Nat) : Prop :=
  l.length = m ∧ B ≤ g ∧ m ≤ cap ∧ ∃ cur fz, w.heap[g]? = some (.cells cur 5 fz) ∧ (fz = (0, 0) ∨ cur.size ≤ fz.1) ∧ cur.size = cap ∧ cur.toList.take m = l.map (Value.int .u8)
theorem Got.lt {w : World} {B g cap : Nat} {l : List Int} {m : Nat} (h : Got w B g cap l m) : g < w.heap.size := by
  obtain ⟨_, _, _, cur, fz, hr, _⟩ := h
  exact (Array.getElem?_eq_some_iff.1 hr).1
theorem Got.same {w w' : World} {B g cap : Nat} {l : List Int} {m : Nat} (h : Got w B g cap l m) (e : w'.heap[g]? = w.heap[g]?) : Got w' B g cap l m := by
  obtain ⟨h1, h2, h3, cur, fz, hr, h4⟩ := h
  exact ⟨h1, h2, h3, cur, fz, e.trans hr, h4⟩
theorem Got.alloc {w : World} {B g cap : Nat} {l : List Int} {m : Nat} (h : Got w B g cap l m) (o : Obj) : Got (w.alloc o) B g cap l m := h.same (Below.heap_alloc w o g h.lt)
theorem Got.cell {w : World} {B g cap : Nat} {l : List Int} {m : Nat} (h : Got w B g cap l m) (i : Nat) (hi : i < m) : w.cell? ⟨g, i, none⟩ = some (.int .u8 (l.getD i 0)) := by
  obtain ⟨h1, _, h3, cur, fz, hr, _, hc, ht⟩ := h
  rw [cell_of_row w g i cur _ fz hr]
  have e : (cur.toList.take m)[i]? = (l.map (Value.int .u8))[i]? := by rw [ht]
  rw [List.getElem?_take, if_pos hi] at e
  rw [← Array.getElem?_toList, e]
  simp [List.getD, List.getElem?_eq_getElem (show i < l.length by omega)]
theorem take_set_next (L : List Value) (n : Nat) (v : Value) (h : n < L.length) : (L.set n v).take (n + 1) = L.take n ++ [v] := by
  rw [List.take_succ_eq_append_getElem (by simpa using h), List.take_set_of_le (Nat.le_refl _), List.getElem_set_self]
theorem below_setCells_w {B g : Nat} (hg : B ≤ g) : ∀ (vs : List Value) (o : Nat) (w : World), Below B w (w.setCells g o vs)
  | [], _, w => Below.refl _ _
  | v :: r, o, w => ((Below.refl B w).setCell (p := ⟨g, o, none⟩) hg v).trans (below_setCells_w hg r (o + 1) _)
theorem got_cells (g : Nat) (t : TypeId) (fz : Nat × Nat) : ∀ (vs : List Value) (o : Nat) (w : World) (cur : Array Value), w.heap[g]? = some (.cells cur t fz) → o + vs.length ≤ cur.size →
    ∃ cur', (w.setCells g o vs).heap[g]? = some (.cells cur' t fz) ∧ cur'.size = cur.size ∧ cur'.toList.take (o + vs.length) = cur.toList.take o ++ vs
  | [], o, w, cur, h, _ => ⟨cur, h, rfl, by simp⟩
  | v :: r, o, w, cur, h, hl => by
    simp only [List.length_cons] at hl
    have h1 : (w.setCell ⟨g, o, none⟩ v).heap[g]? = some (.cells (cur.setIfInBounds o v) t fz) := by
      rw [setCell_eq_setRow w g o cur _ fz _ h]
      exact setRow_heap w g cur _ _ _ h
    obtain ⟨cur', e1, e2, e3⟩ := got_cells g t fz r (o + 1) (w.setCell ⟨g, o, none⟩ v) _ h1 (by simp; omega)
    refine ⟨cur', e1, by simpa using e2, ?_⟩
    rw [List.length_cons, show o + (r.length + 1) = o + 1 + r.length by omega, e3, Array.toList_setIfInBounds, take_set_next _ _ _ (by simp; omega), List.append_assoc]
    rfl
/-- Bytes more behind a row of the call's own. -/
theorem wpList_append_got {ops : Array Oper} {rest : List Oper} {o : Oper} {a : Act} {Q : Exit → Act → World → Prop} (w : World) (hg : o.guard = none) (s x : Operand)
    (hop : o.op = Op.call { callee := Callee.builtin Builtin.append, args := #[s, x], argTypes := #[82, 82] })
    (B g cap m : Nat) (l : List Int) (hs : a.eval s = .slice (some ⟨g, 0, none⟩) m cap) (G : Got w B g cap l m) (hB : B ≤ w.heap.size) (k n c : Nat) (t : TypeId) (ys : List Int) (hx : a.eval x = .slice (some ⟨k, 0, none⟩) n c) (hn0 : 0 < n)
    (hy : ys.length = n) (hh : Row w k t (nums .u8 ys)) (hm : m + n ≤ 140737488355328)
    (next : ∀ g' cap' w', Got w' B g' cap' (l ++ ys) (m + n) → Below B w w' → wpList Tryd.prog ops Q rest (a.put o.dst (.slice (some ⟨g', 0, none⟩) (m + n) cap')) w') :
    wpList Tryd.prog ops Q (o :: rest) a w := by
  obtain ⟨hlen, hBg, hn, cur, fz, hr, hf, hc, ht⟩ := G
  obtain ⟨i0, hi, hz0, hz1, hz2⟩ := info_parts info_byte
  have hcell : ∀ j, w.cell? ⟨g, j, none⟩ = cur[j]? := fun j => cell_of_row w g j cur _ fz hr
  have hfroz : ∀ j, j < cur.size → w.frozen? ⟨g, j, none⟩ = false := fun j hj => by
    obtain ⟨lo, hi'⟩ := fz
    rcases hf with hf | hf
    · simp only [Prod.mk.injEq] at hf; obtain ⟨rfl, rfl⟩ := hf; exact frozen_of_row w g j cur _ hr
    · have : ¬ lo ≤ j := by simp at hf; omega
      simp [World.frozen?, hr, this]
  have hadd : ∀ j, (⟨k, 0, none⟩ : Addr).add j = ⟨k, j, none⟩ := fun j => by unfold Addr.add; split <;> simp_all
  refine wpList_append_arg w hg s x _ hop 5 i0 (.int .u8 0) 1 1 Tryd.underlying82 hi hz0 hz1 hz2 rfl (by decide) g 0 m cap (l.map (Value.int .u8)) hs (by simp [hlen]) ?olds ⟨k, 0, none⟩ n c (ys.map (Value.int .u8)) hx (by simp [hy]) ?c1 ?c2 ?spare (by unfold maxLen; omega) (by omega) ?room ?grow
  case olds =>
    intro j u hu
    rw [Nat.zero_add, hcell]
    rw [← ht, List.getElem?_take] at hu
    split at hu
    · simpa using hu
    · cases hu
  case c1 =>
    intro j u hj
    rw [hadd, hh.cell j]
    simpa [nums] using hj
  case c2 =>
    intro u hu
    obtain ⟨z, _, rfl⟩ := List.mem_map.1 hu
    rfl
  case spare =>
    intro hr' j hj
    have hj0 : j < n := by simpa [hy] using hj
    rw [Nat.zero_add, Nat.mul_one, hcell, hfroz (m + j) (by omega)]
    exact ⟨by simp; omega, rfl⟩
  case room =>
    intro hr'
    obtain ⟨cur', e1, e2, e3⟩ := got_cells g _ fz (ys.map (Value.int .u8)) m w cur hr (by simp; omega)
    rw [show 0 + m * 1 = m by omega]
    refine next g cap _ ⟨by simp [hlen, hy], hBg, hr', cur', fz, e1, by rw [e2]; exact hf, by rw [e2]; exact hc, ?_⟩ (below_setCells_w hBg _ _ _)
    rw [List.length_map, hy] at e3
    rw [e3, ht, List.map_append]
  case grow =>
    intro hg' v' w' hown hgr
    obtain ⟨_, h2⟩ := hown
    rcases h2 with ⟨_, h0⟩ | ⟨g', cap', cur', hv, hb', hcell', hn', hm', hcs, htk⟩
    · omega
    · subst hv
      exact next g' cap' w' ⟨by simp [hlen, hy], by omega, hn', cur', (0, 0), hcell', .inl rfl, by omega, by rw [Nat.mul_one] at htk; rw [htk, List.map_append]⟩ ((Below.refl _ _).grown hgr hB (fun k h => by cases h))
theorem conv_text (w : World) (s : ByteArray) : ∃ wb cap, (convert 9 82 (.string s)).run Tryd.prog w = .ok (.slice (some ⟨w.heap.size, 0, none⟩) s.size cap) wb ∧ Hid (Got wb w.heap.size w.heap.size cap (textL s) s.size) ∧ Hid (Below w.heap.size w wb) := by
  refine ⟨_, _, Lib.run_convert_string_bytes w 9 82 5 s Tryd.underlying9 Tryd.underlying82 Tryd.underlying5, Lib.hid ⟨textL_length s, Nat.le_refl _, grownCap_ge w s.size 0 _, Lib.bytesCells w 5 s, _, Lib.bytesWorld_at_new w 5 s, .inr (Nat.le_refl _), ?_, ?_⟩, Lib.hid ⟨?_, ?_, ?_, ?_, fun j hj => Lib.bytesWorld_at_old w 5 s j hj⟩⟩
  · have := grownCap_ge w s.size 0 5
    have e : s.data.size = s.size := rfl
    simp [Lib.bytesCells, e]; omega
  · have e : s.data.toList.length = s.size := by rw [Array.length_toList]; rfl
    simp only [Lib.bytesCells, Array.toList_append, Array.toList_map]
    rw [List.take_append_of_le_length (by simp [e]), List.take_of_length_le (by simp [e]), textL, List.map_map]; rfl
  · rfl
  · rfl
  · rfl
  · rw [Lib.bytesWorld_size]; omega
end Go.Proofs.YtfakimbneenfdaaDoor
namespace Go.Proofs.YtfakimbneenfdaaDoor
open Go.RowKit
set_option linter.unusedVariables false

/-- How many zeros. -/
def zerosN (n : Nat) : Nat := (119 - n % 64) % 64
theorem zerosN_lt (n : Nat) : zerosN n < 64 := by unfold zerosN; omega
theorem zerosN_is (n : Nat) : (n + 1 + zerosN n) % 64 = 56 := by unfold zerosN; omega
theorem zerosN_le (n z : Nat) (h : (n + 1 + z) % 64 = 56) (hz : z ≤ zerosN n) : z = zerosN n := by unfold zerosN at *; omega
/-- The first q of the eight bytes of a number. -/
def beL (N : Int) : Nat → List Int
  | 0 => []
  | q + 1 => beL N q ++ [N / 2 ^ (8 * (7 - q)) % 256]
def padL (s : ByteArray) : List Int := textL s ++ [128] ++ List.replicate (zerosN s.size) 0 ++ beL ((s.size : Int) * 8) 8
def lenV : Value → Nat
  | .slice _ n _ => n
  | _ => 0
set_option maxHeartbeats 4000000 in
set_option maxRecDepth 100000 in
theorem pad_any (s : ByteArray) (hs : s.size ≤ 3000) (w : World) :
    Calls Tryd.prog 62 #[.string s] w fun ev w' => ∃ g cap, ev = .returned (.slice (some ⟨g, 0, none⟩) (s.size + 1 + zerosN s.size + 8) cap) ∧ Got w' w.heap.size g cap (padL s) (s.size + 1 + zerosN s.size + 8) ∧ Below w.heap.size w w' := by
  obtain ⟨wb, cap0, hcv, G0, B0⟩ := conv_text w s
  have hzl := zerosN_lt s.size
  go_enter Tryd.func62, Tryd.ntmps62
  go_wp2_with (at_builtin; refine wpList_append_got _ rfl (.tmp 7) (.tmp 8) rfl w.heap.size w.heap.size cap0 s.size (textL s) rfl (G0.out.alloc _) ?hB1 wb.heap.size 1 1 5 [128] rfl (by omega) rfl (Row.made wb _ _) (by omega) ?kont1)
  case hB1 => have := B0.out.size; simp; omega
  case kont1 =>
    intro g1 cap1 w1 G1 B1
    have GH : Hid (Got w1 w.heap.size g1 cap1 (textL s ++ [128] ++ List.replicate 0 0) (s.size + 1)) := Lib.hid (by simpa using G1)
    have BH : Hid (Below w.heap.size w w1) := Lib.hid ((B0.out.alloc B0.out.size _).trans B1)
    clear hcv G0 B0 G1 B1
    go_wp2
    go_loopw [3] (fun v wr => ∃ g cap m z, v = .slice (some ⟨g, 0, none⟩) m cap ∧ m = s.size + 1 + z ∧ z ≤ zerosN s.size ∧ Hid (Got wr w.heap.size g cap (textL s ++ [128] ++ List.replicate z 0) m) ∧ Hid (Below w.heap.size w wr)) (fun v _ => 4000 - lenV v)
    case atStart => exact ⟨g1, cap1, _, 0, rfl, rfl, Nat.zero_le _, GH, BH⟩
    case round =>
      clear GH BH
      obtain ⟨g, cap, m, z, rfl, hm, hz, HG, HB⟩ := hrel
      by_cases h56 : m % 64 = 56
      · have ez : z = zerosN s.size := zerosN_le _ _ (by rw [← hm]; exact h56) hz
        have HM : Hid (m = s.size + 1 + zerosN s.size) := Lib.hid (by omega)
        obtain ⟨L, HL⟩ : ∃ L, Hid (L = textL s ++ [128] ++ List.replicate (zerosN s.size) 0) := ⟨_, Lib.hid rfl⟩
        rw [ez, ← HL.out] at HG
        have hmb : m ≤ 3070 := by omega
        clear hm hz ez hzl
        have et : (m : Int).tmod 64 = 56 := by
          rw [Int.tmod_eq_emod_of_nonneg (by omega)]; omega
        clear h56
        go_wp2
        go_loopw [3, 5] (fun v i wr => ∃ g cap q x, v = .slice (some ⟨g, 0, none⟩) (m + q) cap ∧ i = .int .i64 x ∧ x = 7 - (q : Int) ∧ q ≤ 8 ∧ Hid (Got wr w.heap.size g cap (L ++ beL ((s.size : Int) * 8) q) (m + q)) ∧ Hid (Below w.heap.size w wr)) (fun _ i _ => (intOf i + 1).toNat)
        case atStart => exact ⟨g, cap, 0, 7, rfl, rfl, by omega, by omega, Lib.hid (by simpa [beL] using HG.out), HB⟩
        case round =>
          clear HG HB et
          obtain ⟨g, cap, q, x, rfl, rfl, hx, hq, HG, HB⟩ := hrel
          by_cases h0 : x < 0
          · have hq8 : q = 8 := by omega
            have HQ : Hid (q = 8) := Lib.hid hq8
            clear hx hq hq8
            go_wp2
            go_ret
            refine ⟨g, cap, by rw [HM.out, HQ.out]; rfl, ?_, HB.out⟩
            have := HG.out
            rw [HQ.out, HL.out, HM.out] at this
            exact this
          · obtain ⟨r, rfl⟩ : ∃ r : Nat, x = r := ⟨x.toNat, by omega⟩
            have hr : r ≤ 7 := by omega
            have HX : Hid (7 - q = r ∧ q < 8) := Lib.hid (by omega)
            clear hx hq h0
            go_wp2_with (at_builtin; refine wpList_append_got _ rfl (.tmp 25) (.tmp 31) rfl w.heap.size g cap (m + q) _ rfl (HG.out.alloc _) ?hB2 _ 1 1 5 [_] rfl (by omega) rfl (Row.made _ _ _) (by have := HX.out; omega) ?kont2)
            case hB2 => have := HB.out.size; simp; omega
            case kont2 =>
              intro g2 cap2 w2 G2 B2
              go_wp2
              go_roundw
              case rel =>
                have hX := HX.out
                exact ⟨g2, cap2, q + 1, _, rfl, rfl, by omega, by omega, Lib.hid (by simp only [beL, hX.1]; exact G2), Lib.hid ((HB.out.alloc HB.out.size _).trans B2)⟩
              case measure => first | (simp [intOf]; done) | (simp [intOf]; omega)
      · have hzz : z < zerosN s.size := by
          rcases Nat.lt_or_ge z (zerosN s.size) with h | h
          · exact h
          · exfalso; apply h56; rw [hm, show z = zerosN s.size by omega]; exact zerosN_is s.size
        have et : ((m : Int).tmod 64 != 56) = true := by
          rw [Int.tmod_eq_emod_of_nonneg (by omega)]; simp; omega
        have et2 : ¬ ((m : Int).tmod 64 = 56) := by simpa using et
        go_wp2_with (at_builtin; refine wpList_append_got _ rfl (.tmp 14) (.tmp 15) rfl w.heap.size g cap m _ rfl (HG.out.alloc _) ?hB3 _ 1 1 5 [0] rfl (by omega) rfl (Row.made _ _ _) (by omega) ?kont3)
        case hB3 => have := HB.out.size; simp; omega
        case kont3 =>
          intro g2 cap2 w2 G2 B2
          go_wp2
          go_roundw
          case rel => exact ⟨g2, cap2, _, z + 1, rfl, by omega, by omega, Lib.hid (by rw [List.replicate_succ']; simpa using G2), Lib.hid ((HB.out.alloc HB.out.size _).trans B2)⟩
          case measure => simp [lenV]; omega
#print axioms pad_any
end Go.Proofs.YtfakimbneenfdaaDoor
namespace Go.Proofs.YtfakimbneenfdaaDoor
open Go.RowKit
set_option linter.unusedVariables false

/-- The text, filled up. -/
def fullS (s : ByteArray) : ByteArray := ((s ++ mark) ++ zerosS (zerosN s.size)) ++ putS (8 * (s.size : Int)) 8
theorem extract_join (s : ByteArray) (k : Nat) (h : k ≤ s.size) : s.extract 0 k ++ s.extract k s.size = s := by
  rw [ByteArray.extract_append_extract, Nat.min_eq_left (Nat.zero_le _), Nat.max_eq_right h, ByteArray.extract_zero_size]
theorem fullS_split (s : ByteArray) : fullS s = s.extract 0 (64 * (s.size / 64)) ++ fillS (s.extract (64 * (s.size / 64)) s.size) s.size := by
  have e : (119 - (s.extract (64 * (s.size / 64)) s.size).size) % 64 = zerosN s.size := by
    rw [ByteArray.size_extract]; unfold zerosN; omega
  unfold fullS fillS
  rw [e, ← ByteArray.append_assoc, ← ByteArray.append_assoc, ← ByteArray.append_assoc, extract_join s _ (by omega)]
theorem fullS_size (s : ByteArray) : (fullS s).size = s.size + 1 + zerosN s.size + 8 := by
  unfold fullS
  rw [ByteArray.size_append, ByteArray.size_append, ByteArray.size_append, zerosS_size, put8_size]; rfl
theorem join (s : ByteArray) (N : Nat) (hN : (fullS s).size = 64 * N) : sumL s = bytesL (Sha.blocks Ks Hs (fullS s) N).list := by
  have hA : (s.extract 0 (64 * (s.size / 64))).size = 64 * (s.size / 64) := by rw [ByteArray.size_extract]; omega
  have hF : (fullS s).size = 64 * (s.size / 64) + (fillS (s.extract (64 * (s.size / 64)) s.size) s.size).size := by
    rw [fullS_split, ByteArray.size_append, hA]
  have e1 : N = s.size / 64 + (fillS (s.extract (64 * (s.size / 64)) s.size) s.size).size / 64 := by omega
  have h64 : (fillS (s.extract (64 * (s.size / 64)) s.size) s.size).size = 64 * ((fillS (s.extract (64 * (s.size / 64)) s.size) s.size).size / 64) := by omega
  unfold sumL
  rw [e1, Sha.blocks_add Ks Hs (fullS s) (fillS (s.extract (64 * (s.size / 64)) s.size) s.size) _ _ (fun i hi => by
    rw [fullS_split, getb_right _ _ _ (by rw [hA]; omega) (by rw [hA]; omega), hA, Nat.add_sub_cancel_left])]
  rw [Sha.blocks_congr Ks Hs (fullS s) (s.extract 0 (64 * (s.size / 64))) (s.size / 64) (fun i hi => by
    rw [fullS_split, getb_left _ _ _ (by rw [hA]; omega)])]
theorem textL_zeros (z : Nat) : textL (zerosS z) = List.replicate z 0 := by
  induction z with
  | zero => rfl
  | succ z ih =>
    show textL ⟨([0] ++ Lib.repeatL [0] z).toArray⟩ = _
    rw [List.replicate_succ, ← ih]
    rfl
theorem putL_beL (N : Int) : putL N 8 = beL N 8 := rfl
theorem padL_text (s : ByteArray) : padL s = textL (fullS s) := by
  unfold fullS padL
  rw [textL_app, textL_app, textL_app, textL_zeros, putS_some _ 8 (by omega), textL_nums _ (fun x hx => ?_), Int.mul_comm]
  · rfl
  · simp [putL] at hx
    omega
theorem padL_get (s : ByteArray) (i : Nat) (h : i < (fullS s).size) : (padL s).getD i 0 = (((fullS s).get! i).toNat : Int) := by
  rw [padL_text, get_elem _ i h]
  have hl : i < (fullS s).data.toList.length := by rw [Array.length_toList]; exact h
  unfold textL
  simp [List.getD, h]
  rfl
#print axioms join
#print axioms padL_get
end Go.Proofs.YtfakimbneenfdaaDoor
namespace Go.Proofs.YtfakimbneenfdaaDoor
open Go.RowKit
set_option linter.unusedVariables false

/-- The memory of the call: the result, the rounds' numbers, the eight numbers, a block's numbers, the filled text's bytes. -/
structure RH (w wr : World) (g3 g4 gb g6 cap m : Nat) (P V W : List Int) : Prop where
  r2 : Row wr w.heap.size 31 (nums .u8 (List.replicate 32 0))
  r3 : Row wr g3 80 (nums .u32 Ks)
  r4 : Row wr g4 81 (nums .u32 V)
  r6 : Row wr g6 80 (nums .u32 W)
  rb : Got wr w.heap.size gb cap P m
  lt : w.heap.size < g3 ∧ g3 < g4 ∧ g4 < gb ∧ gb < g6
  below : Below w.heap.size w wr
theorem RH.putW {w wr : World} {g3 g4 gb g6 cap m : Nat} {P V W : List Int} (H : RH w wr g3 g4 gb g6 cap m P V W) (i : Nat) (x : Int) : RH w (wr.setCell ⟨g6, i, none⟩ (.int .u32 x)) g3 g4 gb g6 cap m P V (W.set i x) := by
  obtain ⟨h1, h2, h3, h4, h5, h6, h7⟩ := H
  exact ⟨h1.far (by simp; omega) _, h2.far (by simp; omega) _, h3.far (by simp; omega) _, h4.numPut i x, h5.same (heap_setCell_other wr _ gb _ (by simp; omega)), h6, h7.setCell (by simp; omega) _⟩
theorem RH.putV {w wr : World} {g3 g4 gb g6 cap m : Nat} {P V W : List Int} (H : RH w wr g3 g4 gb g6 cap m P V W) (i : Nat) (x : Int) : RH w (wr.setCell ⟨g4, i, none⟩ (.int .u32 x)) g3 g4 gb g6 cap m P (V.set i x) W := by
  obtain ⟨h1, h2, h3, h4, h5, h6, h7⟩ := H
  exact ⟨h1.far (by simp; omega) _, h2.far (by simp; omega) _, h3.numPut i x, h4.far (by simp; omega) _, h5.same (heap_setCell_other wr _ gb _ (by simp; omega)), h6, h7.setCell (by simp; omega) _⟩
theorem RH.drewN {w wr : World} {g3 g4 gb g6 cap m : Nat} {P V W : List Int} (H : RH w wr g3 g4 gb g6 cap m P V W) (n : Nat) : RH w (wr.drewN n) g3 g4 gb g6 cap m P V W := by
  obtain ⟨h1, h2, h3, h4, h5, h6, h7⟩ := H
  exact ⟨h1.drewN n, h2.drewN n, h3.drewN n, h4.drewN n, h5, h6, below_drewN h7 n⟩
theorem RH.drew {w wr : World} {g3 g4 gb g6 cap m : Nat} {P V W : List Int} (H : RH w wr g3 g4 gb g6 cap m P V W) : RH w wr.drew g3 g4 gb g6 cap m P V W := by
  obtain ⟨h1, h2, h3, h4, h5, h6, h7⟩ := H
  exact ⟨h1.drew, h2.drew, h3.drew, h4.drew, h5, h6, h7.drew⟩
theorem size8d : (Tryd.prog.info? 81).map (·.size) = some 8 := by kernel_rfl
theorem size1w : (Tryd.prog.info? 79).map (·.size) = some 1 := by kernel_rfl
theorem zero64 : ((Tryd.prog.info? 80).bind (·.zero)).map (·.cells.size) = some Ks.length := by kernel_rfl
theorem zero8 : ((Tryd.prog.info? 81).bind (·.zero)).map (·.cells.size) = some Hs.list.length := by kernel_rfl
theorem take_put (W : List Int) (i : Nat) (x : Int) (h : i < W.length) : (W.set i x).take (i + 1) = W.take i ++ [x] := by
  rw [List.take_succ_eq_append_getElem (by simpa using h), List.take_set_of_le (Nat.le_refl _), List.getElem_set_self]
theorem wp_gen {P : Program} {c : Code} {Q : Exit → Act → World → Prop} {a : Act} {w0 : World} (R : World → Prop) (hR : R w0) (h : ∀ wx, R wx → Code.wp P c Q a wx) : Code.wp P c Q a w0 := h _ hR
theorem take_nextR (l : List Int) (k : Nat) (h : k < l.length) : l.take (k + 1) = l.take k ++ [l.getD k 0] := by
  rw [List.take_succ_eq_append_getElem h]
  simp [List.getD, List.getElem?_eq_getElem h]
theorem turn_int (x K : Int) (w : World) (h : 0 ≤ x ∧ x < 4294967296) (h1 : 1 ≤ K) (h2 : K ≤ 31) :
    Calls Tryd.prog 63 #[.int .u32 x, .int .u32 K] w fun e w' => e = .returned (.int .u32 (Math.rot x (-K))) ∧ w = w' := by
  obtain ⟨k, rfl⟩ : ∃ k : Nat, K = k := ⟨K.toNat, by omega⟩
  exact turn_any x k w h (by omega) (by omega)
theorem rnd_next {K W : List Int} {s0 : Sha.St} {j : Nat} {a b c d e f g h k x : Int} (H : Sha.St.mk a b c d e f g h = Sha.rnd K W s0 j) (e2 : Sha.St.ok ⟨a, b, c, d, e, f, g, h⟩) (hk : k = K.getD j 0) (hx : x = W.getD j 0) :
    Sha.St.mk ((Sha.t1 e f g h k x + Sha.t2 a b c) % 4294967296) a b c ((d + Sha.t1 e f g h k x) % 4294967296) e f g = Sha.rnd K W s0 (j + 1) ∧ Sha.St.ok ⟨(Sha.t1 e f g h k x + Sha.t2 a b c) % 4294967296, a, b, c, (d + Sha.t1 e f g h k x) % 4294967296, e, f, g⟩ := by
  have e1 : Sha.rnd K W s0 (j + 1) = (Sha.rnd K W s0 j).step (K.getD j 0) (W.getD j 0) := rfl
  have e3 := Sha.St.step_ok _ k x e2
  have e4 : (Sha.St.mk a b c d e f g h).step k x = ⟨(Sha.t1 e f g h k x + Sha.t2 a b c) % 4294967296, a, b, c, (d + Sha.t1 e f g h k x) % 4294967296, e, f, g⟩ := by simp only [Sha.St.step]
  rw [← H, ← hk, ← hx, e4] at e1
  rw [e4] at e3
  exact ⟨e1.symm, e3⟩
theorem blocks_next {T : ByteArray} {j : Nat} {W V : List Int} {a0 a1 a2 a3 a4 a5 a6 a7 a b c d e f g h : Int} (hst : Sha.St.mk a0 a1 a2 a3 a4 a5 a6 a7 = Sha.blocks Ks Hs T j) (hW : W = Sha.sched T (64 * j) 48)
    (hr : Sha.St.mk a b c d e f g h = Sha.rnd Ks W ⟨a0, a1, a2, a3, a4, a5, a6, a7⟩ 64) (hV : V = Sha.St.list ⟨a0, a1, a2, a3, a4, a5, a6, a7⟩) :
    (((((((V.set 0 ((a0 + a) % 4294967296)).set 1 ((a1 + b) % 4294967296)).set 2 ((a2 + c) % 4294967296)).set 3 ((a3 + d) % 4294967296)).set 4 ((a4 + e) % 4294967296)).set 5 ((a5 + f) % 4294967296)).set 6 ((a6 + g) % 4294967296)).set 7 ((a7 + h) % 4294967296) = (Sha.blocks Ks Hs T (j + 1)).list := by
  show _ = (Sha.block Ks (Sha.blocks Ks Hs T j) T (64 * j)).list
  rw [← hst]
  unfold Sha.block
  rw [← hW, ← hr, hV]
  rfl
/-- What holds while the bytes are written. -/
def OutR (w wx : World) (g4 r : Nat) (V : List Int) (i : Nat) : Prop :=
  Row wx r 31 (nums .u8 ((bytesL V).take i ++ List.replicate (32 - i) 0)) ∧ Row wx g4 81 (nums .u32 V) ∧ Row wx w.heap.size 31 (nums .u8 (List.replicate 32 0)) ∧ (w.heap.size < g4 ∧ g4 < r) ∧ Below w.heap.size w wx
theorem OutR.start {w wr : World} {g3 g4 gb g6 cap m : Nat} {P V W : List Int} (H : RH w wr g3 g4 gb g6 cap m P V W) : OutR w (wr.alloc (.cells (nums .u8 (List.replicate 32 0)) 31)) g4 wr.heap.size V 0 :=
  ⟨Row.made _ _ _, H.r4.alloc _, H.r2.alloc _, ⟨by have := H.lt; omega, H.r4.lt⟩, H.below.alloc H.below.size _⟩
theorem OutR.next {w wr : World} {g4 r i : Nat} {V : List Int} (H : OutR w wr g4 r V i) (hV : V.length = 8) (hi : i < 32) (x : Int) (hx : x = (bytesL V).getD i 0) : OutR w (wr.setCell ⟨r, i, none⟩ (.int .u8 x)) g4 r V (i + 1) := by
  obtain ⟨h1, h2, h3, h4, h5⟩ := H
  refine ⟨?_, h2.far (by simp; omega) _, h3.far (by simp; omega) _, h4, h5.setCell (by simp; omega) _⟩
  have h := h1.numPut i x
  have hl : (bytesL V).length = 32 := by rw [bytesL_length, hV]
  have hlt : ((bytesL V).take i).length = i := by rw [List.length_take]; omega
  have e : ((bytesL V).take i ++ List.replicate (32 - i) 0).set i x = (bytesL V).take (i + 1) ++ List.replicate (32 - (i + 1)) 0 := by
    rw [show 32 - i = (32 - (i + 1)) + 1 by omega, List.replicate_succ, List.set_append_right _ _ (by omega), hlt, Nat.sub_self, List.set_cons_zero, take_nextR _ i (by omega), ← hx, List.append_assoc]
    rfl
  rwa [e] at h
theorem bytesL_get (l : List Int) (q r : Nat) (hq : q < l.length) (hr : r < 4) : (bytesL l).getD (4 * q + r) 0 = (putL (l.getD q 0) 4).getD r 0 := by
  induction l generalizing q with
  | nil => simp at hq
  | cons n l ih =>
    simp only [bytesL]
    cases q with
    | zero =>
      rw [Nat.mul_zero, Nat.zero_add, List.getD_eq_getElem?_getD, List.getElem?_append_left (by rw [putL_length]; exact hr)]
      rfl
    | succ q =>
      rw [List.getD_eq_getElem?_getD, List.getElem?_append_right (by rw [putL_length]; omega), putL_length, show 4 * (q + 1) + r - 4 = 4 * q + r by omega, ← List.getD_eq_getElem?_getD, ih q (by simpa using hq)]
      rfl
theorem putL_get4 (n : Int) (r : Nat) (hr : r < 4) : (putL n 4).getD r 0 = n / 2 ^ (8 * (3 - r)) % 256 := by
  match r, hr with
  | 0, _ => rfl
  | 1, _ => rfl
  | 2, _ => rfl
  | 3, _ => rfl
theorem wpStill_hide {P : Program} {ops : Array Oper} {w : World} {Q : Act → Prop} {a : Act} {l : List Oper} (h : ∀ Q' : Act → Prop, (∀ a', Q a' → Q' a') → wpStill P ops w Q' l a) : wpStill P ops w Q l a := h Q (fun _ h => h)
set_option maxHeartbeats 40000000 in
set_option maxRecDepth 100000 in
theorem refSum_any (s : ByteArray) (hs : s.size ≤ 3000) (w : World) :
    Calls Tryd.prog 43 #[.string s] w fun ev w' => ev = .returned (.agg (nums .u8 (sumL s))) ∧ Below w.heap.size w w' := by
  have hT := fullS_size s
  obtain ⟨N, hN⟩ : ∃ N, (fullS s).size = 64 * N := ⟨(fullS s).size / 64, by have := zerosN_is s.size; omega⟩
  have HJ := Lib.hid (join s N hN)
  have HG := Lib.hid (padL_get s)
  have hz := zerosN_lt s.size
  obtain ⟨M, hM⟩ : ∃ M, s.size + 1 + zerosN s.size + 8 = M := ⟨_, rfl⟩
  obtain ⟨P, hPP⟩ : ∃ P, Hid (P = padL s) := ⟨_, Lib.hid rfl⟩
  have hPad : ∀ W, Calls Tryd.prog 62 #[.string s] W fun ev w' => ∃ g cap, ev = .returned (.slice (some ⟨g, 0, none⟩) M cap) ∧ Got w' W.heap.size g cap P M ∧ Below W.heap.size W w' := fun W => by
    rw [← hM, hPP.out]; exact pad_any s hs W
  have HP := Lib.hid hPad
  obtain ⟨T, hTT⟩ : ∃ T, Hid (T = fullS s) := ⟨_, Lib.hid rfl⟩
  rw [← hTT.out, ← hPP.out] at HG
  rw [← hTT.out] at HJ hN hT
  have hMN : M = 64 * N := by omega
  have hMb : M ≤ 3100 := by omega
  have HMN := Lib.hid hMN
  have HTN := Lib.hid hN
  clear hPad hM hz hT hMN hN
  go_enter Tryd.func43, Tryd.ntmps43
  go_upto_region 1 with fail
  refine wp_gen (fun wx => Row wx w.heap.size 31 (nums .u8 (List.replicate 32 0)) ∧ Below w.heap.size w wx) ⟨Row.made _ _ _, (Below.refl _ _).alloc (Nat.le_refl _) _⟩ (fun wx H0 => ?_)
  have H0 := Lib.hid H0
  go_upto_region 4 with (first
    | (refine wpList_buildFlatArr rfl 80 79 64 _ rfl .u32 Ks Tryd.underlying80 size1w zero64 rfl ?_)
    | (refine wpList_store_fresh rfl 80 _ _ rfl (nums .u32 Ks) rfl rfl 80 _ (size64 Ks rfl) rfl (nums_one _ _) ?_; intro w2 hS hb; have H1 : Hid (Row w2 w.heap.size 31 (nums .u8 (List.replicate 32 0)) ∧ Row w2 wx.heap.size 80 (nums .u32 Ks) ∧ w.heap.size < wx.heap.size ∧ Below w.heap.size w w2) := Lib.hid ⟨H0.out.1.next hb, hS, H0.out.1.lt, below_new H0.out.2 hb⟩; clear hS hb)
    | (refine wpList_buildFlatArr rfl 81 79 8 _ rfl .u32 Hs.list Tryd.underlying81 size1w zero8 rfl ?_)
    | (refine wpList_store_fresh rfl 81 _ _ rfl (nums .u32 Hs.list) rfl rfl 81 _ size8d rfl (nums_one _ _) ?_; intro w3 hS hb; have H2 : Hid (Row w3 w.heap.size 31 (nums .u8 (List.replicate 32 0)) ∧ Row w3 wx.heap.size 80 (nums .u32 Ks) ∧ Row w3 w2.heap.size 81 (nums .u32 Hs.list) ∧ (w.heap.size < wx.heap.size ∧ wx.heap.size < w2.heap.size) ∧ Below w.heap.size w w3) := Lib.hid ⟨H1.out.1.next hb, H1.out.2.1.next hb, hS, ⟨H1.out.2.2.1, H1.out.2.1.lt⟩, below_new H1.out.2.2.2 hb⟩; clear hS hb)
    | (go_at_call 62; (with_reducible refine (HP.out _).mono ?_); rintro e w4 ⟨gb, cap, rfl, hG, hb⟩; have H3 : Hid (Row w4 w.heap.size 31 (nums .u8 (List.replicate 32 0)) ∧ Row w4 wx.heap.size 80 (nums .u32 Ks) ∧ Row w4 w2.heap.size 81 (nums .u32 Hs.list) ∧ Got w4 w.heap.size gb cap P M ∧ (w.heap.size < wx.heap.size ∧ wx.heap.size < w2.heap.size ∧ w2.heap.size < gb) ∧ Below w.heap.size w w4) := Lib.hid ⟨H2.out.1.next hb, H2.out.2.1.next hb, H2.out.2.2.1.next hb, ⟨hG.1, by have := hG.2.1; have := H2.out.1.lt; omega, hG.2.2⟩, ⟨H2.out.2.2.2.1.1, H2.out.2.2.2.1.2, by have := hG.2.1; have := H2.out.2.2.1.lt; omega⟩, below_new H2.out.2.2.2.2 hb⟩; clear hG hb))
  clear H0 H1 H2 HP
  go_upto_region 5 with fail
  obtain ⟨g3, hg3⟩ : ∃ g3, Hid (g3 = wx.heap.size) := ⟨_, Lib.hid rfl⟩
  obtain ⟨g4, hg4⟩ : ∃ g4, Hid (g4 = w2.heap.size) := ⟨_, Lib.hid rfl⟩
  obtain ⟨g6, hg6⟩ : ∃ g6, Hid (g6 = w4.heap.size) := ⟨_, Lib.hid rfl⟩
  rw [← hg3.out, ← hg4.out] at H3
  rw [← hg3.out, ← hg4.out, ← hg6.out]
  refine wp_gen (fun wy => RH w wy g3 g4 gb g6 cap M P Hs.list (List.replicate 64 0)) (by rw [hg6.out]; exact ⟨H3.out.1.alloc _, H3.out.2.1.alloc _, H3.out.2.2.1.alloc _, Row.made _ _ _, H3.out.2.2.2.1.alloc _, ⟨H3.out.2.2.2.2.1.1, H3.out.2.2.2.2.1.2.1, H3.out.2.2.2.2.1.2.2, H3.out.2.2.2.1.lt⟩, H3.out.2.2.2.2.2.alloc H3.out.2.2.2.2.2.size _⟩) (fun wy H4 => ?_)
  have H4 := Lib.hid H4
  clear H3 hg3 hg4 hg6
  go_wp2
  go_loopw [7] (fun s7 wr => ∃ j : Nat, j ≤ N ∧ s7 = .int .i64 (64 * (j : Int)) ∧ Hid (∃ W, W.length = 64 ∧ RH w wr g3 g4 gb g6 cap M P (Sha.blocks Ks Hs T j).list W)) (fun s7 _ => 64 * N - (intOf s7).toNat)
  case atStart => exact ⟨0, by omega, rfl, Lib.hid ⟨_, by simp, H4.out⟩⟩
  case round =>
    clear H4
    obtain ⟨j, hj, rfl, HH⟩ := hrel
    have hMN2 := HMN.out
    by_cases hlt : j < N
    · have h64 : 64 * j + 64 ≤ M := by omega
      have h64b : 64 * j < M := by omega
      have hdM : decide (64 * (j : Int) < (M : Int)) = true := decide_eq_true (by omega)
      obtain ⟨⟨a0, a1, a2, a3, a4, a5, a6, a7⟩, hst⟩ : ∃ st, Hid (st = Sha.blocks Ks Hs T j) := ⟨_, Lib.hid rfl⟩
      have hok0 : Hid (Sha.St.ok ⟨a0, a1, a2, a3, a4, a5, a6, a7⟩) := Lib.hid (by rw [hst.out]; exact Sha.blocks_ok Ks Hs T Hs_ok j)
      obtain ⟨V, hV⟩ : ∃ V, Hid (V = Sha.St.list ⟨a0, a1, a2, a3, a4, a5, a6, a7⟩) := ⟨_, Lib.hid rfl⟩
      rw [← hst.out, ← hV.out] at HH
      clear hMN2
      have HL : Hid (∃ W, W.length = 64 ∧ W.take 0 = Sha.first T (64 * j) 0 ∧ RH w wr g3 g4 gb g6 cap M P V W) := Lib.hid (by obtain ⟨W, h1, h2⟩ := HH.out; exact ⟨W, h1, by simp [Sha.first], h2⟩)
      clear HH
      go_wp2
      go_loopw [8, 9] (fun s8 _ wx => ∃ i : Nat, i ≤ 16 ∧ s8 = .int .i64 (i : Int) ∧ Hid (∃ W, W.length = 64 ∧ W.take i = Sha.first T (64 * j) i ∧ RH w wx g3 g4 gb g6 cap M P V W)) (fun s8 _ _ => (16 - intOf s8).toNat)
      case atStart => exact ⟨0, by omega, rfl, HL⟩
      case round =>
        clear HL
        obtain ⟨i, hi, rfl, HL⟩ := hrel
        by_cases hli : i < 16
        · obtain ⟨W, hW1, hW2, hR⟩ := HL.out
          obtain ⟨p, hp⟩ : ∃ p : Nat, Hid (p = 64 * j + 4 * i) := ⟨_, Lib.hid rfl⟩
          have hpv : 64 * (j : Int) + 4 * (i : Int) = (p : Int) := by have := hp.out; omega
          have hpM : (p : Int) + 3 < (M : Int) := by have := hp.out; omega
          have hTp : p + 4 ≤ T.size := by have := hp.out; have := HTN.out; omega
          obtain ⟨b0, e0⟩ : ∃ b, Hid (b = (T.get! p).toNat) := ⟨_, Lib.hid rfl⟩
          obtain ⟨b1, e1⟩ : ∃ b, Hid (b = (T.get! (p + 1)).toNat) := ⟨_, Lib.hid rfl⟩
          obtain ⟨b2, e2⟩ : ∃ b, Hid (b = (T.get! (p + 2)).toNat) := ⟨_, Lib.hid rfl⟩
          obtain ⟨b3, e3⟩ : ∃ b, Hid (b = (T.get! (p + 3)).toNat) := ⟨_, Lib.hid rfl⟩
          have c0 : wr.cell? ⟨gb, p, none⟩ = some (.int .u8 (b0 : Int)) := by rw [hR.rb.cell p (by omega), HG.out p (by omega), e0.out]
          have c1 : wr.cell? ⟨gb, p + 1, none⟩ = some (.int .u8 (b1 : Int)) := by rw [hR.rb.cell (p + 1) (by omega), HG.out (p + 1) (by omega), e1.out]
          have c2 : wr.cell? ⟨gb, p + 2, none⟩ = some (.int .u8 (b2 : Int)) := by rw [hR.rb.cell (p + 2) (by omega), HG.out (p + 2) (by omega), e2.out]
          have c3 : wr.cell? ⟨gb, p + 3, none⟩ = some (.int .u8 (b3 : Int)) := by rw [hR.rb.cell (p + 3) (by omega), HG.out (p + 3) (by omega), e3.out]
          have d0 : b0 < 256 := by rw [e0.out]; exact byte_lt _
          have d1 : b1 < 256 := by rw [e1.out]; exact byte_lt _
          have d2 : b2 < 256 := by rw [e2.out]; exact byte_lt _
          have d3 : b3 < 256 := by rw [e3.out]; exact byte_lt _
          have cw := hR.r6.num (i := i) (by omega)
          have fw := hR.r6.free i
          have HR := Lib.hid hR
          have HW := Lib.hid (And.intro hW1 hW2)
          clear hW1 hW2 hR HL
          go_wp2
          have w1 : IntKind.i64.wrap ((p : Int) + 1) = (p : Int) + 1 := by rw [IntKind.wrap_i64]; omega
          have w2 : IntKind.i64.wrap ((p : Int) + 2) = (p : Int) + 2 := by rw [IntKind.wrap_i64]; omega
          have w3 : IntKind.i64.wrap ((p : Int) + 3) = (p : Int) + 3 := by rw [IntKind.wrap_i64]; omega
          have n1 : ((p : Int) + 1).toNat = p + 1 := by omega
          have n2 : ((p : Int) + 2).toNat = p + 2 := by omega
          have n3 : ((p : Int) + 3).toNat = p + 3 := by omega
          have q1 : (0 : Int) ≤ (p : Int) + 1 := by omega
          have q2 : (0 : Int) ≤ (p : Int) + 2 := by omega
          have q3 : (0 : Int) ≤ (p : Int) + 3 := by omega
          have i0 : (0 : Int) ≤ (i : Int) := by omega
          have i64 : (i : Int) < 64 := by omega
          have m0 : (p : Int) < (M : Int) := by omega
          have m1 : (p : Int) + 1 < (M : Int) := by omega
          have m2 : (p : Int) + 2 < (M : Int) := by omega
          refine wp_region_still_tail 31 (by kernel_rfl) (by kernel_rfl) ?_
          simp only [List.take_succ_cons, List.take_zero, List.drop_succ_cons, List.drop_zero]
          refine wpStill_hide (fun Q' hQ => ?_)
          have HQ := Lib.hid hQ
          clear hQ
          iterate 31 ((refine (wpStill_step (fun K hK => ?_) : wpStill _ _ _ _ (_ :: _) _)); go_simp; refine hK _ ?_; clear hK K)
          refine wpStill_nil ?_
          refine HQ.out _ ?_
          change wpList _ _ _ _ _ wr.drew
          go_wp2
          go_roundw
          case rel =>
            refine ⟨i + 1, by omega, by go_num, Lib.hid ⟨W.set i _, by rw [List.length_set]; exact HW.out.1, ?_, HR.out.drew.putW i _⟩⟩
            rw [take_put W i _ (by rw [HW.out.1]; omega), HW.out.2]
            rw [show Sha.first T (64 * j) (i + 1) = Sha.first T (64 * j) i ++ [((Sha.word T (64 * j + 4 * i) : Nat) : Int)] from rfl, ← hp.out]
            unfold Sha.word
            rw [← e0.out, ← e1.out, ← e2.out, ← e3.out]
            congr 2
            omega
          case measure => simp [intOf]; omega
        · have hi16 : Hid (i = 16) := Lib.hid (by omega)
          have HL3 : Hid (∃ W, W.length = 64 ∧ W.take 16 = Sha.sched T (64 * j) 0 ∧ RH w wr g3 g4 gb g6 cap M P V W) := Lib.hid (by
            obtain ⟨W, h1, h2, h3⟩ := HL.out
            rw [hi16.out] at h2
            exact ⟨W, h1, h2, h3⟩)
          clear HL
          go_wp2
          go_loopw [10, 11, 12] (fun s10 _ _ wx => ∃ k : Nat, 16 ≤ k ∧ k ≤ 64 ∧ s10 = .int .i64 (k : Int) ∧ Hid (∃ W, W.length = 64 ∧ W.take k = Sha.sched T (64 * j) (k - 16) ∧ RH w wx g3 g4 gb g6 cap M P V W)) (fun s10 _ _ _ => (64 - intOf s10).toNat)
          case atStart => exact ⟨16, by omega, by omega, rfl, HL3⟩
          case round =>
            clear HL3
            obtain ⟨k, hk0, hk1, rfl, HK⟩ := hrel
            by_cases hlk : k < 64
            · obtain ⟨W, hW1, hW2, hR⟩ := HK.out
              obtain ⟨l, hl⟩ : ∃ l, Hid (l = Sha.sched T (64 * j) (k - 16)) := ⟨_, Lib.hid rfl⟩
              have hlen : Hid (l.length = k) := Lib.hid (by rw [hl.out, Sha.sched_length]; omega)
              have hm : ∀ d : Nat, 0 < d → d ≤ 16 → ∃ x, Hid (x = l.getD (l.length - d) 0) ∧ wr.cell? ⟨g6, k - d, none⟩ = some (.int .u32 x) ∧ 0 ≤ x ∧ x < 4294967296 := fun d hd hd2 => by
                have h2 := hR.r6.num (i := k - d) (by omega)
                have e : W.getD (k - d) 0 = l.getD (k - d) 0 := by
                  rw [hl.out, ← hW2, List.getD_eq_getElem?_getD, List.getD_eq_getElem?_getD, List.getElem?_take, if_pos (by omega)]
                rw [e] at h2
                have h3 := Sha.sched_small T (64 * j) (k - 16) (k - d)
                rw [← hl.out] at h3
                exact ⟨_, Lib.hid (by rw [hlen.out]), h2, h3⟩
              obtain ⟨x16, e16, c16, b16⟩ := hm 16 (by omega) (by omega)
              obtain ⟨x15, e15, c15, b15⟩ := hm 15 (by omega) (by omega)
              obtain ⟨x7, e7, c7, b7⟩ := hm 7 (by omega) (by omega)
              obtain ⟨x2, e2, c2, b2⟩ := hm 2 (by omega) (by omega)
              have hc := hR.r6.num (i := k) (by omega)
              have hf := hR.r6.free k
              have HR := Lib.hid hR
              have HW := Lib.hid (And.intro hW1 hW2)
              have g16 : 16 ≤ (k : Int) := by omega
              have g15 : 15 ≤ (k : Int) := by omega
              have g7 : 7 ≤ (k : Int) := by omega
              have g2 : 2 ≤ (k : Int) := by omega
              have g64 : (k : Int) < 64 := by omega
              have f16 : (k : Int) - 16 < 64 := by omega
              have f15 : (k : Int) - 15 < 64 := by omega
              have f7 : (k : Int) - 7 < 64 := by omega
              have f2 : (k : Int) - 2 < 64 := by omega
              clear hm hW1 hW2 hR HK
              go_wp2_with fail
              go_quiet (fail)
              go_wp2_with fail
              have v16 : IntKind.i64.wrap ((k : Int) - 16) = (k : Int) - 16 := by rw [IntKind.wrap_i64]; omega
              have v7 : IntKind.i64.wrap ((k : Int) - 7) = (k : Int) - 7 := by rw [IntKind.wrap_i64]; omega
              have t16 : ((k : Int) - 16).toNat = k - 16 := by omega
              have t7 : ((k : Int) - 7).toNat = k - 7 := by omega
              refine wp_region_still_tail 29 (by kernel_rfl) (by kernel_rfl) ?_
              simp only [List.take_succ_cons, List.take_zero, List.drop_succ_cons, List.drop_zero]
              refine wpStill_hide (fun Q' hQ => ?_)
              have HQ := Lib.hid hQ
              clear hQ
              change wpStill _ _ (wr.drewN nq).drew Q' _ _
              have c16' : (wr.drewN nq).drew.cell? ⟨g6, k - 16, none⟩ = some (.int .u32 x16) := c16
              have c7' : (wr.drewN nq).drew.cell? ⟨g6, k - 7, none⟩ = some (.int .u32 x7) := c7
              iterate 6 ((refine (wpStill_step (fun K hK => ?_) : wpStill _ _ _ _ (_ :: _) _)); go_simp; refine hK _ ?_; clear hK K)
              ((refine (wpStill_step (fun K hK => ?_) : wpStill _ _ _ _ (_ :: _) _)); go_simp; refine ⟨_, (turn_any x15 7 _ b15 (by omega) (by omega)).mono (fun _ _ h => ⟨h.1, h.2.symm⟩), hK _ ?_⟩; clear hK K)
              iterate 1 ((refine (wpStill_step (fun K hK => ?_) : wpStill _ _ _ _ (_ :: _) _)); go_simp; refine hK _ ?_; clear hK K)
              ((refine (wpStill_step (fun K hK => ?_) : wpStill _ _ _ _ (_ :: _) _)); go_simp; refine ⟨_, (turn_any x15 18 _ b15 (by omega) (by omega)).mono (fun _ _ h => ⟨h.1, h.2.symm⟩), hK _ ?_⟩; clear hK K)
              iterate 11 ((refine (wpStill_step (fun K hK => ?_) : wpStill _ _ _ _ (_ :: _) _)); go_simp; refine hK _ ?_; clear hK K)
              ((refine (wpStill_step (fun K hK => ?_) : wpStill _ _ _ _ (_ :: _) _)); go_simp; refine ⟨_, (turn_any x2 17 _ b2 (by omega) (by omega)).mono (fun _ _ h => ⟨h.1, h.2.symm⟩), hK _ ?_⟩; clear hK K)
              iterate 1 ((refine (wpStill_step (fun K hK => ?_) : wpStill _ _ _ _ (_ :: _) _)); go_simp; refine hK _ ?_; clear hK K)
              ((refine (wpStill_step (fun K hK => ?_) : wpStill _ _ _ _ (_ :: _) _)); go_simp; refine ⟨_, (turn_any x2 19 _ b2 (by omega) (by omega)).mono (fun _ _ h => ⟨h.1, h.2.symm⟩), hK _ ?_⟩; clear hK K)
              iterate 6 ((refine (wpStill_step (fun K hK => ?_) : wpStill _ _ _ _ (_ :: _) _)); go_simp; refine hK _ ?_; clear hK K)
              refine wpStill_nil ?_
              refine HQ.out _ ?_
              change wpList _ _ _ _ _ (wr.drewN nq).drew
              have hc' : (wr.drewN nq).drew.cell? ⟨g6, k, none⟩ = _ := hc
              have hf' : (wr.drewN nq).drew.frozen? ⟨g6, k, none⟩ = false := hf
              go_wp2
              go_roundw
              case rel =>
                refine ⟨k + 1, by omega, by omega, by go_num, Lib.hid ⟨W.set k _, by rw [List.length_set]; exact HW.out.1, ?_, ((HR.out.drewN nq).drew).putW k _⟩⟩
                rw [take_put W k _ (by rw [HW.out.1]; omega), HW.out.2, ← hl.out]
                rw [show k + 1 - 16 = (k - 16) + 1 by omega]
                simp only [Sha.sched, ← hl.out]
                unfold Sha.more Sha.s0 Sha.s1
                rw [← e16.out, ← e15.out, ← e7.out, ← e2.out]
              case measure => simp [intOf]; omega
            · have hk64 : Hid (k = 64) := Lib.hid (by omega)
              obtain ⟨W, HW⟩ : ∃ W, Hid (W.length = 64 ∧ W = Sha.sched T (64 * j) 48 ∧ RH w wr g3 g4 gb g6 cap M P V W) := by
                obtain ⟨W, h1, h2, h3⟩ := HK.out
                rw [hk64.out, List.take_of_length_le (by omega)] at h2
                exact ⟨W, Lib.hid ⟨h1, h2, h3⟩⟩
              have hr4 := HW.out.2.2.r4
              rw [hV.out] at hr4
              have c0 : wr.cell? ⟨g4, 0, none⟩ = some (.int .u32 a0) := hr4.num (i := 0) (by show 0 < 8; omega)
              have c1 : wr.cell? ⟨g4, 1, none⟩ = some (.int .u32 a1) := hr4.num (i := 1) (by show 1 < 8; omega)
              have c2 : wr.cell? ⟨g4, 2, none⟩ = some (.int .u32 a2) := hr4.num (i := 2) (by show 2 < 8; omega)
              have c3 : wr.cell? ⟨g4, 3, none⟩ = some (.int .u32 a3) := hr4.num (i := 3) (by show 3 < 8; omega)
              have c4 : wr.cell? ⟨g4, 4, none⟩ = some (.int .u32 a4) := hr4.num (i := 4) (by show 4 < 8; omega)
              have c5 : wr.cell? ⟨g4, 5, none⟩ = some (.int .u32 a5) := hr4.num (i := 5) (by show 5 < 8; omega)
              have c6 : wr.cell? ⟨g4, 6, none⟩ = some (.int .u32 a6) := hr4.num (i := 6) (by show 6 < 8; omega)
              have c7 : wr.cell? ⟨g4, 7, none⟩ = some (.int .u32 a7) := hr4.num (i := 7) (by show 7 < 8; omega)
              clear hr4 HK
              go_wp2_with fail
              go_quiet (fail)
              go_wp2_with fail
              have HA : Hid (Sha.St.mk a0 a1 a2 a3 a4 a5 a6 a7 = Sha.rnd Ks W ⟨a0, a1, a2, a3, a4, a5, a6, a7⟩ 0 ∧ Sha.St.ok ⟨a0, a1, a2, a3, a4, a5, a6, a7⟩ ∧ RH w (wr.drewN nq) g3 g4 gb g6 cap M P V W) := Lib.hid ⟨rfl, hok0.out, HW.out.2.2.drewN _⟩
              have HWW : Hid (W.length = 64 ∧ W = Sha.sched T (64 * j) 48) := Lib.hid ⟨HW.out.1, HW.out.2.1⟩
              clear HW c0 c1 c2 c3 c4 c5 c6 c7
              go_loopw [13, 14, 15, 16, 17, 18, 19, 20, 21, 22, 23] (fun s13 s14 s15 s16 s17 s18 s19 s20 s21 _ _ wx => ∃ i : Nat, ∃ a b c d e f g h : Int, i ≤ 64 ∧ s21 = .int .i64 (i : Int) ∧ s13 = .int .u32 a ∧ s14 = .int .u32 b ∧ s15 = .int .u32 c ∧ s16 = .int .u32 d ∧ s17 = .int .u32 e ∧ s18 = .int .u32 f ∧ s19 = .int .u32 g ∧ s20 = .int .u32 h ∧ Hid (Sha.St.mk a b c d e f g h = Sha.rnd Ks W ⟨a0, a1, a2, a3, a4, a5, a6, a7⟩ i ∧ Sha.St.ok ⟨a, b, c, d, e, f, g, h⟩ ∧ RH w wx g3 g4 gb g6 cap M P V W)) (fun _ _ _ _ _ _ _ _ s21 _ _ _ => (64 - intOf s21).toNat)
              case atStart => exact ⟨0, _, _, _, _, _, _, _, _, by omega, rfl, rfl, rfl, rfl, rfl, rfl, rfl, rfl, rfl, HA⟩
              case round =>
                clear HA
                obtain ⟨i, a, b, c, d, e, f, g, h, hi, rfl, rfl, rfl, rfl, rfl, rfl, rfl, rfl, rfl, HR⟩ := hrel
                by_cases hli : i < 64
                · obtain ⟨ba, bb, bc, bd, be, bf, bg, bh⟩ := HR.out.2.1
                  obtain ⟨x, hx⟩ : ∃ x, Hid (x = W.getD i 0) := ⟨_, Lib.hid rfl⟩
                  obtain ⟨kk, hkk⟩ : ∃ kk, Hid (kk = Ks.getD i 0) := ⟨_, Lib.hid rfl⟩
                  have hWi := HR.out.2.2.r6.num (i := i) (by rw [HWW.out.1]; exact hli)
                  have hKi := HR.out.2.2.r3.num (i := i) (by show i < 64; exact hli)
                  rw [← hx.out] at hWi
                  rw [← hkk.out] at hKi
                  go_wp2_with fail
                  go_quiet ((go_at_call 63; exact still (turn_int _ _ _ be (by decide) (by decide))))
                  go_wp2_with (go_at_call 63; (with_reducible refine (turn_int _ _ _ ba (by decide) (by decide)).mono ?_); rintro e w' ⟨rfl, rfl⟩)
                  go_roundw
                  case rel =>
                    obtain ⟨n1, n2⟩ := rnd_next HR.out.1 HR.out.2.1 hkk.out hx.out
                    exact ⟨i + 1, _, _, _, _, _, _, _, _, by omega, by go_num, rfl, rfl, rfl, rfl, rfl, rfl, rfl, rfl, Lib.hid ⟨n1, n2, HR.out.2.2.drewN _⟩⟩
                  case measure => simp [intOf]; omega
                · have hi64 : Hid (i = 64) := Lib.hid (by omega)
                  have hr4 := HR.out.2.2.r4
                  rw [hV.out] at hr4
                  have c0 : wr.cell? ⟨g4, 0, none⟩ = some (.int .u32 a0) := hr4.num (i := 0) (by show 0 < 8; omega)
                  have c1 : wr.cell? ⟨g4, 1, none⟩ = some (.int .u32 a1) := hr4.num (i := 1) (by show 1 < 8; omega)
                  have c2 : wr.cell? ⟨g4, 2, none⟩ = some (.int .u32 a2) := hr4.num (i := 2) (by show 2 < 8; omega)
                  have c3 : wr.cell? ⟨g4, 3, none⟩ = some (.int .u32 a3) := hr4.num (i := 3) (by show 3 < 8; omega)
                  have c4 : wr.cell? ⟨g4, 4, none⟩ = some (.int .u32 a4) := hr4.num (i := 4) (by show 4 < 8; omega)
                  have c5 : wr.cell? ⟨g4, 5, none⟩ = some (.int .u32 a5) := hr4.num (i := 5) (by show 5 < 8; omega)
                  have c6 : wr.cell? ⟨g4, 6, none⟩ = some (.int .u32 a6) := hr4.num (i := 6) (by show 6 < 8; omega)
                  have c7 : wr.cell? ⟨g4, 7, none⟩ = some (.int .u32 a7) := hr4.num (i := 7) (by show 7 < 8; omega)
                  have hfr := fun q => hr4.free q
                  clear hr4
                  go_wp2_with fail
                  go_roundw
                  case rel =>
                    have hh := (((((((HR.out.2.2.putV 0 ((a0 + a) % 4294967296)).putV 1 ((a1 + b) % 4294967296)).putV 2 ((a2 + c) % 4294967296)).putV 3 ((a3 + d) % 4294967296)).putV 4 ((a4 + e) % 4294967296)).putV 5 ((a5 + f) % 4294967296)).putV 6 ((a6 + g) % 4294967296)).putV 7 ((a7 + h) % 4294967296)
                    have hr := HR.out.1
                    rw [hi64.out] at hr
                    rw [blocks_next hst.out HWW.out.2 hr hV.out] at hh
                    exact ⟨j + 1, by omega, by go_num, Lib.hid ⟨W, HWW.out.1, hh⟩⟩
                  case measure => simp [intOf]; omega
    · have hjN : Hid (j = N) := Lib.hid (by omega)
      have hdM : decide (64 * (j : Int) < (M : Int)) = false := decide_eq_false (by omega)
      obtain ⟨V, hV⟩ : ∃ V, Hid (V = (Sha.blocks Ks Hs T N).list) := ⟨_, Lib.hid rfl⟩
      obtain ⟨W, HO⟩ : ∃ W, Hid (RH w wr g3 g4 gb g6 cap M P V W) := by
        obtain ⟨W, h1, h2⟩ := HH.out
        rw [hjN.out, ← hV.out] at h2
        exact ⟨W, Lib.hid h2⟩
      have HV8 : Hid (V.length = 8) := Lib.hid (by rw [hV.out]; rfl)
      have HVb : Hid (∀ q, q < 8 → 0 ≤ V.getD q 0 ∧ V.getD q 0 < 4294967296) := Lib.hid (by rw [hV.out]; exact fun q hq => list_bd _ (Sha.blocks_ok Ks Hs T Hs_ok N) q hq)
      have H5 := Lib.hid (OutR.start HO.out)
      clear HH HO hMN2
      obtain ⟨gr, hgr⟩ : ∃ gr, Hid (gr = wr.heap.size) := ⟨_, Lib.hid rfl⟩
      rw [← hgr.out] at H5
      go_wp2_with fail
      rw [← hgr.out]
      go_loopw [25] (fun s25 wx => ∃ i : Nat, i ≤ 32 ∧ s25 = .int .i64 (i : Int) ∧ Hid (OutR w wx g4 gr V i)) (fun s25 _ => (32 - intOf s25).toNat)
      case atStart => exact ⟨0, by omega, rfl, H5⟩
      case round =>
        clear H5
        obtain ⟨i, hi, rfl, HR⟩ := hrel
        by_cases hli : i < 32
        · obtain ⟨q, r, hqr, hr4, hq8⟩ : ∃ q r : Nat, Hid (i = 4 * q + r) ∧ r < 4 ∧ q < 8 := ⟨i / 4, i % 4, Lib.hid (by omega), by omega, by omega⟩
          obtain ⟨y, hy⟩ : ∃ y, Hid (y = V.getD q 0) := ⟨_, Lib.hid rfl⟩
          have hyb := HVb.out q hq8
          have hc := HR.out.2.1.num (i := q) (by rw [HV8.out]; exact hq8)
          rw [← hy.out] at hyb hc
          have e1 : (i : Int).tdiv 4 = (q : Int) := by have := hqr.out; rw [Int.tdiv_eq_ediv_of_nonneg (by omega)]; omega
          have e2 : (i : Int).tmod 4 = (r : Int) := by have := hqr.out; rw [Int.tmod_eq_emod_of_nonneg (by omega)]; omega
          have hcx := HR.out.1.num (i := i) (by rw [List.length_append, List.length_take, bytesL_length, HV8.out]; simp; omega)
          have hfx := HR.out.1.free i
          go_wp2_with fail
          go_roundw
          case rel =>
            refine ⟨i + 1, by omega, by go_num, Lib.hid (HR.out.next HV8.out hli _ ?_)⟩
            rw [hqr.out, bytesL_get V q r (by rw [HV8.out]; exact hq8) hr4, putL_get4 _ r hr4, ← hy.out, show 24 - 8 * r = 8 * (3 - r) by omega]
          case measure => simp [intOf]; omega
        · have hi32 : Hid (i = 32) := Lib.hid (by omega)
          have hbl : (bytesL V).length = 32 := by rw [bytesL_length, HV8.out]
          obtain ⟨C, hC⟩ : ∃ C, Hid (C = nums .u8 (bytesL V)) := ⟨_, Lib.hid rfl⟩
          have h1 : Row wr gr 31 C := by
            have h := HR.out.1
            rw [hi32.out, List.take_of_length_le (by omega)] at h
            rw [hC.out]
            simpa using h
          have h2 := HR.out.2.2.1
          have zC : Hid (C.size = 32) := Lib.hid (by rw [hC.out, nums_size, hbl])
          have h5 : Hid ((nums .u8 (List.replicate 32 0)).size = C.size) := Lib.hid (by rw [zC.out, nums_size]; simp)
          have h3 : C.all (·.oneCell') = true := by rw [hC.out]; exact nums_one .u8 (bytesL V)
          have h6 : (Tryd.prog.info? 31).map (·.size) = some C.size := by rw [hC.out]; exact size32 (bytesL V) hbl
          clear hbl
          go_wp2_with (first
            | (refine wpList_load_row rfl 31 _ rfl gr rfl 31 _ (0, 0) _ h1 Tryd.underlying31 rfl h6 ?_)
            | (refine wpList_store_row rfl 31 _ _ rfl w.heap.size _ rfl rfl 31 _ h2 h6 h5.out h3 ?_))
          refine bodyPost_ret (results_cell_row rfl _ _ w.heap.size 31 _ (0, 0) _ rfl (h2.whole _) Tryd.underlying31 rfl h6) rfl ⟨?_, below_setRow HR.out.2.2.2.2 (Nat.le_refl _)⟩
          rw [HJ.out, ← hV.out, ← hC.out]
end Go.Proofs.YtfakimbneenfdaaDoor
namespace Go.Proofs.YtfakimbneenfdaaDoor
open Go.RowKit
set_option linter.unusedVariables false
set_option maxRecDepth 100000

theorem infoU8 : (Tryd.prog.info? 5).map (fun i => (i.zero, i.size, i.bytes)) = some (some (.int .u8 0), 1, 1) := by kernel_rfl
def HashHead (w wr : World) (l : List Int) (k : Nat) (v : Value) : Prop :=
  wr.ownsRow (w.heap.size + 1) 5 1 v k ((l.map (Value.int .u8)).take k) ∧ Row wr w.heap.size 31 (nums .u8 l) ∧ Below w.heap.size w wr
theorem take_more (l : List Int) (k : Nat) (h : k < l.length) : l.take (k + 1) = l.take k ++ [l.getD k 0] := by
  rw [List.take_succ_eq_append_getElem h]
  simp [List.getD, List.getElem?_eq_getElem h]
theorem row_grown {w w' : World} {g : Nat} {t : TypeId} {cs : Array Value} {row : Option Nat} (h : Row w g t cs) (hb : w.grownBy w' row) (hg : some g ≠ row) : Row w' g t cs := (hb.block g h.lt hg).trans h
theorem HashHead.next {w wr w1 : World} {l : List Int} {k : Nat} {v v' : Value} (hk : k < l.length) (H : HashHead w wr l k v) (x : Value)
    (h1 : w1.ownsRow (w.heap.size + 1) 5 1 v' (k + 1) ((l.map (Value.int .u8)).take k ++ [.int .u8 (l.getD k 0)])) (hg : (wr.alloc (.cells #[x] 5)).grownBy w1 v.ownBlock) : HashHead w w1 l (k + 1) v' := by
  obtain ⟨h2, h3, h4⟩ := H
  have hge : ∀ g, v.ownBlock = some g → w.heap.size + 1 ≤ g := by
    rcases h2.2 with ⟨rfl, _⟩ | ⟨g', cap, cur, rfl, hb, _⟩
    · intro g hg; simp [Value.ownBlock] at hg
    · intro g hg
      have : g' = g := by simpa [Value.ownBlock] using hg
      omega
  refine ⟨?_, row_grown (h3.alloc _) hg (fun e => by have := hge _ e.symm; omega), (h4.alloc h4.size _).grown hg (by have := h4.size; simp; omega) (fun g e => by have := hge _ e; omega)⟩
  rw [← List.map_take, take_more l k hk, List.map_append, List.map_take]
  exact h1
theorem HashHead.text {w wr : World} {l : List Int} {v : Value} (hl : l.length = 32) (H : HashHead w wr l 32 v) :
    (convert 82 9 v).run Tryd.prog wr = .ok (.string (strOfNums l)) wr := by
  obtain ⟨h1, h2, h3⟩ := H
  obtain ⟨g, cap, rfl⟩ : ∃ g cap, v = .slice (some ⟨g, 0, none⟩) 32 cap := by
    rcases h1.2 with ⟨_, h0⟩ | ⟨g, cap, _, hv, _⟩
    · omega
    · exact ⟨g, cap, hv⟩
  refine run_convert_bytes_arg wr 82 5 Tryd.underlying82 Tryd.underlying5 g 0 32 cap l hl (fun i hi => ?_) 9 Tryd.underlying9
  have := h1.cells (g := g) rfl i (.int .u8 (l.getD i 0)) (by rw [List.take_of_length_le (by simp; omega)]; simp [List.getD, List.getElem?_eq_getElem (show i < l.length by omega)])
  rw [Nat.zero_add]
  have e : (⟨g, 0, none⟩ : Addr).add i = ⟨g, i, none⟩ := by unfold Addr.add; split <;> simp_all
  rwa [e] at this
set_option maxHeartbeats 1000000 in
set_option maxRecDepth 100000 in
theorem refHash_any (l : List Int) (hl : l.length = 32) (w : World) :
    Calls Tryd.prog 64 #[.agg (nums .u8 l)] w fun e w' => e = .returned (.string (strOfNums l)) ∧ Below w.heap.size w w' := by
  obtain ⟨i0, hi, hz0, hz1, hz2⟩ := info_parts infoU8
  have HL := Lib.hid hl
  have H0 : Hid (HashHead w (w.alloc (.cells (nums .u8 l) 31)) l 0 (.slice none 0 0)) := Lib.hid ⟨⟨rfl, .inl ⟨rfl, rfl⟩⟩, Row.made _ _ _, (Below.refl _ _).alloc (Nat.le_refl _) _⟩
  clear hl
  go_enter Tryd.func64, Tryd.ntmps64
  go_wp2
  go_loopw [3, 4] (fun s3 s4 wr => ∃ k v, s3 = v ∧ s4 = .int .i64 ((k : Nat) : Int) ∧ k ≤ 32 ∧ Hid (HashHead w wr l k v)) (fun _ s4 _ => (32 - intOf s4).toNat)
  case atStart => exact ⟨0, _, rfl, rfl, by omega, H0⟩
  case round =>
    clear H0
    obtain ⟨k, v, rfl, rfl, hk, HH⟩ := hrel
    by_cases hlt : k < 32
    · have hc := HH.out.2.1.num (i := k) (by rw [HL.out]; exact hlt)
      obtain ⟨x, hx⟩ : ∃ x, Hid (x = l.getD k 0) := ⟨_, Lib.hid rfl⟩
      rw [← hx.out] at hc
      go_wp2_with (at_builtin; refine wpList_append_own _ rfl (.tmp 9) (.tmp 13) 82 rfl (w.heap.size + 1) 5 i0 (.int .u8 0) 1 1 Tryd.underlying82 hi hz0 hz1 hz2 rfl (by decide) _ _ _ rfl (HH.out.1.alloc _) ⟨wr.heap.size, 0, none⟩ 1 1 [.int .u8 x] rfl rfl ?c1 ?c2 (by unfold maxLen; omega) (by omega) ?c5 ?_)
      case c1 => intro j u hj; match j, hj with | 0, hj => simp at hj; subst hj; simp [World.cell?_alloc_new, Addr.add]
      case c2 => intro u hu; simp at hu; subst hu; rfl
      case c5 => have := HH.out.2.2.size; have := HH.out.2.1.lt; simp; omega
      intro v' w1 hown hgrow _
      have HN : Hid (HashHead w w1 l (k + 1) v') := Lib.hid (HH.out.next (by rw [HL.out]; exact hlt) _ (by rw [← hx.out]; exact hown) hgrow)
      clear hown hgrow HH
      go_wp2
      go_roundw
      case rel => exact ⟨k + 1, _, rfl, by go_num, by omega, HN⟩
      case measure => simp [intOf]; omega
    · obtain rfl : k = 32 := by omega
      have ht := HH.out.text HL.out
      go_wp2
      go_ret
      exact ⟨rfl, HH.out.2.2⟩
end Go.Proofs.YtfakimbneenfdaaDoor
namespace Go.Proofs.YtfakimbneenfdaaDoor
open Go.RowKit
set_option linter.unusedVariables false
set_option maxRecDepth 100000

attribute [local go_sem ↓ high] read_at write_at
set_option maxHeartbeats 4000000 in
set_option maxRecDepth 100000 in
theorem refNode_any (a b : List Int) (ha : a.length = 32) (hb : b.length = 32) (w : World) :
    Calls Tryd.prog 44 #[.agg (nums .u8 a), .agg (nums .u8 b)] w fun ev w' => ev = .returned (.agg (nums .u8 (nodeL a b))) ∧ Below w.heap.size w w' := by
  obtain ⟨A, hA⟩ : ∃ A, Hid (A = nums .u8 a) := ⟨_, Lib.hid rfl⟩
  obtain ⟨B, hB⟩ : ∃ B, Hid (B = nums .u8 b) := ⟨_, Lib.hid rfl⟩
  obtain ⟨C, hC⟩ : ∃ C, Hid (C = nums .u8 (nodeL a b)) := ⟨_, Lib.hid rfl⟩
  have zA : Hid (A.size = 32) := Lib.hid (by rw [hA.out, nums_size, ha])
  have zB : Hid (B.size = 32) := Lib.hid (by rw [hB.out, nums_size, hb])
  have zC : Hid (C.size = 32) := Lib.hid (by rw [hC.out, nums_size]; exact sumL_length _)
  have zZ : Hid ((nums .u8 (List.replicate 32 0)).size = 32) := Lib.hid (by rw [nums_size]; simp)
  have oC : Hid (C.all (·.oneCell') = true) := Lib.hid (by rw [hC.out]; exact nums_one _ _)
  have X1 : Hid (∀ W, Calls Tryd.prog 64 #[.agg A] W fun ev w' => ev = .returned (.string (strOfNums a)) ∧ Below W.heap.size W w') := Lib.hid fun W => by rw [hA.out]; exact refHash_any a ha W
  have X2 : Hid (∀ W, Calls Tryd.prog 64 #[.agg B] W fun ev w' => ev = .returned (.string (strOfNums b)) ∧ Below W.heap.size W w') := Lib.hid fun W => by rw [hB.out]; exact refHash_any b hb W
  obtain ⟨x, hx⟩ : ∃ x, Hid (x = strOfNums a) := ⟨_, Lib.hid rfl⟩
  obtain ⟨y, hy⟩ : ∃ y, Hid (y = strOfNums b) := ⟨_, Lib.hid rfl⟩
  have S1 : Hid (∀ W, Calls Tryd.prog 43 #[.string (⟨#[1]⟩ ++ x ++ y)] W fun ev w' => ev = .returned (.agg C) ∧ Below W.heap.size W w') := Lib.hid fun W => by
    rw [hC.out, hx.out, hy.out]; exact refSum_any (nodeS a b) (by unfold nodeS; rw [ByteArray.size_append, ByteArray.size_append, strOfNums_size, strOfNums_size, ha, hb]; show 1 + 32 + 32 ≤ _; omega) W
  have zx : x.size = 32 := by rw [hx.out, strOfNums_size, ha]
  have zy : y.size = 32 := by rw [hy.out, strOfNums_size, hb]
  have a1 := add_run ⟨#[1]⟩ x (by rw [zx]; show 1 + 32 ≤ _; omega)
  have a2 := add_run (⟨#[1]⟩ ++ x) y (by rw [ByteArray.size_append, zx, zy]; show 1 + 32 + 32 ≤ _; omega)
  clear zx zy
  rw [← hx.out] at X1
  rw [← hy.out] at X2
  have hA0 : nums .u8 a = A := hA.out.symm
  have hB0 : nums .u8 b = B := hB.out.symm
  rw [hA0, hB0]
  clear ha hb hA0 hB0
  go_enter Tryd.func44, Tryd.ntmps44
  go_upto_region 1 with fail
  refine world_gen (fun wx => NodeH w wx A B) (NodeH.start w A B) (fun wx HQ => ?_)
  have HQ := Lib.hid HQ.drew
  have s1 := HQ.out.1.read zA.out
  have s2 := HQ.out.2.1.read zB.out
  go_region_with (first
    | (go_at_call 64; (first | (with_reducible refine (X1.out _).mono ?_) | (with_reducible refine (X2.out _).mono ?_)); rintro e w1 ⟨rfl, hb⟩; have HQ := Lib.hid (HQ.out.next hb); clear hb s1 s2; have s1 := HQ.out.1.read zA.out; have s2 := HQ.out.2.1.read zB.out)
    | (go_at_call 43; (with_reducible refine (S1.out _).mono ?_); rintro e w2 ⟨rfl, hb⟩; have HQ := Lib.hid (HQ.out.next hb); clear hb s1 s2; have s3 := HQ.out.2.2.1.write zZ.out zC.out oC.out))
  all_goals
    go_wp2
    refine bodyPost_ret (results_cell_row rfl _ _ (w.heap.size + 2) 31 _ (0, 0) _ rfl (HQ.out.2.2.1.whole _) Tryd.underlying31 rfl (sizeH _ zC.out)) rfl ⟨by rw [hC.out], below_setRow HQ.out.2.2.2 (by omega)⟩
end Go.Proofs.YtfakimbneenfdaaDoor
namespace Go.Proofs.YtfakimbneenfdaaDoor
open Go.RowKit
set_option linter.unusedVariables false
set_option maxRecDepth 100000

/-- What the document's Root holds: its result, its list. -/
structure RefH (w wr : World) (A : Option Addr) (ls : List (List Int)) : Prop where
  out : Row wr w.heap.size 31 (nums .u8 (List.replicate 32 0))
  hl : HL wr w.heap.size A ls
  below : Below w.heap.size w wr
theorem RefH.next {w wr w1 : World} {A : Option Addr} {ls : List (List Int)} (h : RefH w wr A ls) (hb : Below wr.heap.size wr w1) : RefH w w1 A ls :=
  ⟨h.out.next hb, h.hl.next hb h.below.size, below_new h.below hb⟩
theorem RefH.drew {w wr : World} {A : Option Addr} {ls : List (List Int)} (h : RefH w wr A ls) : RefH w wr.drew A ls := ⟨h.out.drew, h.hl, h.below.drew⟩
theorem RefH.start {w : World} {A : Option Addr} {ls : List (List Int)} (h : HL w w.heap.size A ls) : RefH w (w.alloc (.cells (nums .u8 (List.replicate 32 0)) 31)) A ls :=
  ⟨Row.made _ _ _, h.next ((Below.refl _ _).alloc (Nat.le_refl _) _) (Nat.le_refl _), (Below.refl _ _).alloc (Nat.le_refl _) _⟩
attribute [local go_sem ↓ high] read_at write_at
set_option maxHeartbeats 4000000 in
set_option maxRecDepth 100000 in
theorem refRoot_any (k : Nat) : ∀ (ls : List (List Int)) (A : Option Addr) (c : Nat) (w : World), ls.length ≤ k → hashes ls → HL w w.heap.size A ls → ls.length ≤ c → c ≤ 9223372036854775807 →
    Calls Tryd.prog 49 #[.slice A ls.length c] w fun ev w' => ev = .returned (.agg (nums .u8 (rootL ls))) ∧ Below w.heap.size w w' := by
  induction k with
  | zero =>
    intro ls A c w hk hh hA hc hcm
    obtain ⟨C, hC⟩ : ∃ C, Hid (C = nums .u8 (rootL ls)) := ⟨_, Lib.hid rfl⟩
    have zC : Hid (C.size = 32) := Lib.hid (by rw [hC.out, nums_size]; exact (rootL_is _ hh).1)
    have oC : Hid (C.all (·.oneCell') = true) := Lib.hid (by rw [hC.out]; exact nums_one _ _)
    have zZ : Hid ((nums .u8 (List.replicate 32 0)).size = 32) := Lib.hid (by rw [nums_size]; simp)
    have h6 := sizeH C.size zC.out
    have S1 : Hid (∀ W, Calls Tryd.prog 43 #[.string ⟨#[]⟩] W fun ev w' => ev = .returned (.agg C) ∧ Below W.heap.size W w') := Lib.hid fun W => by
      rw [hC.out, rootL_none ls (by omega)]; exact refSum_any ⟨#[]⟩ (by decide) W
    have HS := Lib.hid (RefH.start hA)
    have h0 : ls.length = 0 := by omega
    rw [h0]
    clear hk hA hc hcm h0
    go_enter Tryd.func49, Tryd.ntmps49
    go_upto_region 1 with fail
    refine world_gen (fun wx => RefH w wx A ls) HS.out (fun wx HQ => ?_)
    have HQ := Lib.hid HQ
    go_wp2_with (first
      | (go_at_call 43; (with_reducible refine (S1.out _).mono ?_); rintro e w1 ⟨rfl, hb⟩; have HQ := Lib.hid (HQ.out.next hb); clear hb)
      | (refine wpList_store_row rfl 31 _ _ rfl w.heap.size C rfl rfl 31 _ HQ.out.out h6 (by rw [zC.out, zZ.out]) oC.out ?_))
    refine bodyPost_ret (results_cell_row rfl _ _ w.heap.size 31 _ (0, 0) _ rfl (HQ.out.out.whole _) Tryd.underlying31 rfl h6) rfl ⟨by rw [hC.out], below_setRow HQ.out.below (Nat.le_refl _)⟩
  | succ k ih =>
    intro ls A c w hk hh hA hc hcm
    obtain ⟨C, hC⟩ : ∃ C, Hid (C = nums .u8 (rootL ls)) := ⟨_, Lib.hid rfl⟩
    have zC : Hid (C.size = 32) := Lib.hid (by rw [hC.out, nums_size]; exact (rootL_is _ hh).1)
    have oC : Hid (C.all (·.oneCell') = true) := Lib.hid (by rw [hC.out]; exact nums_one _ _)
    have zZ : Hid ((nums .u8 (List.replicate 32 0)).size = 32) := Lib.hid (by rw [nums_size]; simp)
    have h6 := sizeH C.size zC.out
    by_cases hsm : ls.length ≤ k
    · exact ih ls A c w hsm hh hA hc hcm
    · obtain ⟨ad, rfl⟩ := hA.some 0 (by omega)
      have HS := Lib.hid (RefH.start hA)
      obtain ⟨n, hn⟩ : ∃ n, Hid (n = ls.length) := ⟨_, Lib.hid rfl⟩
      have hk1 : n = k + 1 := by rw [hn.out]; omega
      rw [← hn.out] at hc ⊢
      by_cases h1 : n = 1
      · have e1 : Hid (C = nums .u8 (ls.getD 0 [])) := Lib.hid (by rw [hC.out, rootL_one ls (by rw [← hn.out]; exact h1)])
        have hl0 : Hid (0 < ls.length) := Lib.hid (by rw [← hn.out]; omega)
        subst h1
        clear hk hA hc hcm ih hsm hk1
        go_enter Tryd.func49, Tryd.ntmps49
        go_upto_region 1 with fail
        refine world_gen (fun wx => RefH w wx (some ad) ls) HS.out (fun wx HQ => ?_)
        have HQ := Lib.hid HQ
        have s1 := HQ.out.hl.read hh 0 hl0.out
        rw [show ad.add (0 * 32) = ad by simp [Addr.add]] at s1
        rw [← e1.out] at s1
        go_wp2_with (refine wpList_store_row rfl 31 _ _ rfl w.heap.size C rfl rfl 31 _ HQ.out.out h6 (by rw [zC.out, zZ.out]) oC.out ?_)
        refine bodyPost_ret (results_cell_row rfl _ _ w.heap.size 31 _ (0, 0) _ rfl (HQ.out.out.whole _) Tryd.underlying31 rfl h6) rfl ⟨by rw [hC.out], below_setRow HQ.out.below (Nat.le_refl _)⟩
      · obtain ⟨q, hq⟩ : ∃ q, Hid (q = splitN n) := ⟨_, Lib.hid rfl⟩
        have hq1 : 0 < q := by rw [hq.out]; exact splitN_pos _ (by omega)
        have hq2 : q < n := by rw [hq.out]; exact splitN_lt _ (by omega)
        have hnm : n ≤ 9223372036854775807 := by omega
        have e1 : Hid (C = nums .u8 (nodeL (rootL (ls.take q)) (rootL (ls.drop q)))) := Lib.hid (by rw [hC.out, rootL_more ls (by rw [← hn.out]; omega), hq.out, hn.out])
        have S1 : Hid (∀ W, Calls Tryd.prog 55 #[.int .i64 (n : Int)] W fun ev w' => ev = .returned (.int .i64 (q : Int)) ∧ W = w') := Lib.hid fun W =>
          (refSplit_any (n : Int) (by omega) W).mono fun ev w' ⟨he, hw⟩ => ⟨by rw [he]; unfold splitI; rw [show ((n : Int)).toNat = n by omega, hq.out], hw⟩
        obtain ⟨L, hL⟩ : ∃ L, Hid (L = nums .u8 (rootL (ls.take q))) := ⟨_, Lib.hid rfl⟩
        obtain ⟨R, hR⟩ : ∃ R, Hid (R = nums .u8 (rootL (ls.drop q))) := ⟨_, Lib.hid rfl⟩
        have l1 : (ls.take q).length = q := by rw [List.length_take, ← hn.out]; omega
        have l2 : (ls.drop q).length = n - q := by rw [List.length_drop, ← hn.out]
        have X1 : Hid (∀ W, RefH w W (some ad) ls → Calls Tryd.prog 49 #[.slice (some ad) q c] W fun ev w' => ev = .returned (.agg L) ∧ Below W.heap.size W w') := Lib.hid fun W H => by
          rw [hL.out]
          have := ih (ls.take q) (some ad) c W (by omega) (hashes_take hh _) ((H.hl.more H.below.size).take q) (by omega) hcm
          rwa [l1] at this
        have X2 : Hid (∀ W, RefH w W (some ad) ls → Calls Tryd.prog 49 #[.slice (some (ad.add (q * 32))) (n - q) (c - q)] W fun ev w' => ev = .returned (.agg R) ∧ Below W.heap.size W w') := Lib.hid fun W H => by
          rw [hR.out]
          have := ih (ls.drop q) (some (ad.add (q * 32))) (c - q) W (by omega) (hashes_drop hh _) ((H.hl.more H.below.size).drop q) (by omega) (by omega)
          rwa [l2] at this
        have X3 : Hid (∀ W, Calls Tryd.prog 44 #[.agg L, .agg R] W fun ev w' => ev = .returned (.agg C) ∧ Below W.heap.size W w') := Lib.hid fun W => by
          rw [e1.out, hL.out, hR.out]
          exact refNode_any _ _ (rootL_is _ (hashes_take hh _)).1 (rootL_is _ (hashes_drop hh _)).1 W
        have hd0 : ((n : Int) == 0) = false := by simp; omega
        have hd1 : ((n : Int) == 1) = false := by simp; omega
        have b1 : (n : Int) ≤ (c : Int) := by omega
        have b2 : (q : Int) ≤ (n : Int) := by omega
        have b3 : (q : Int) ≤ (c : Int) := by omega
        have b4 : (0 : Int) ≤ (q : Int) := by omega
        have b5 : ((n : Int) - (q : Int)).toNat = n - q := by omega
        have b6 : ((c : Int) - (q : Int)).toNat = c - q := by omega
        have b7 : q < c := by omega
        clear hk hA ih hq1 hL hR e1 hnm hsm hk1 l1 l2 h1
        go_enter Tryd.func49, Tryd.ntmps49
        go_upto_region 1 with fail
        refine world_gen (fun wx => RefH w wx (some ad) ls) HS.out (fun wx HQ => ?_)
        have HQ := Lib.hid HQ.drew
        go_upto_region 6 with (go_at_call 55; (with_reducible refine (S1.out _).mono ?_); rintro e w' ⟨rfl, rfl⟩)
        go_region_with (first
          | (go_at_call 49; (first | (with_reducible refine (X1.out _ HQ.out).mono ?_) | (with_reducible refine (X2.out _ HQ.out).mono ?_)); rintro e w1 ⟨rfl, hb⟩; have HQ := Lib.hid (HQ.out.next hb); clear hb)
          | (go_at_call 44; (with_reducible refine (X3.out _).mono ?_); rintro e w2 ⟨rfl, hb⟩; have HQ := Lib.hid (HQ.out.next hb); clear hb; have s3 := HQ.out.out.write zZ.out zC.out oC.out))
        all_goals
          go_wp2
          refine bodyPost_ret (results_cell_row rfl _ _ w.heap.size 31 _ (0, 0) _ rfl (HQ.out.out.whole _) Tryd.underlying31 rfl h6) rfl ⟨by rw [hC.out], below_setRow HQ.out.below (Nat.le_refl _)⟩
end Go.Proofs.YtfakimbneenfdaaDoor
