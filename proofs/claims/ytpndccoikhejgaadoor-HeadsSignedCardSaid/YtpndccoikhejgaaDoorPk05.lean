/-
  Several texts in one (a claim has room for 60 files): UnhashesB, UnhsB, Flat, Got, NumWalk.
-/
import Derived.Test.YtpndccoikhejgaaDoorPk04
import Derived.Laws.OwnMore
import Derived.Great.BuildSlice
import Derived.ArgAppend
import Derived.Lib.ConvBytes
import Derived.Test.YtpndccoikhejgaaDoorPk00
import Derived.Laws.BytesArg
namespace Go.Proofs.YtpndccoikhejgaaDoor
open Go.RowKit
set_option linter.unusedVariables false
set_option maxRecDepth 100000

/-- How many hashes stand ahead of a text, and from which byte on. -/
def unhsR (s : ByteArray) : Option (Nat × Nat) := match readR s with
  | some (n, p) => if n ≤ 64 ∧ 32 * n ≤ (s.extract p s.size).size then some (n, p) else none
  | none => none
theorem unhsR_none (s : ByteArray) (h : readR s = none) : unhsR s = none := by simp [unhsR, h]
theorem unhsR_no (s : ByteArray) (n p : Nat) (h : readR s = some (n, p)) (hn : ¬ (n ≤ 64 ∧ 32 * n ≤ (s.extract p s.size).size)) : unhsR s = none := by
  unfold unhsR; rw [h]; simp only; rw [if_neg hn]
theorem unhsR_yes (s : ByteArray) (n p : Nat) (h : readR s = some (n, p)) (hn : n ≤ 64 ∧ 32 * n ≤ (s.extract p s.size).size) : unhsR s = some (n, p) := by
  unfold unhsR; rw [h]; simp only; rw [if_pos hn]
/-- The first k hashes of bytes. -/
def chunk (L : List Int) : Nat → List (List Int)
  | 0 => []
  | k + 1 => chunk L k ++ [(L.drop (32 * k)).take 32]
theorem chunk_length (L : List Int) (k : Nat) : (chunk L k).length = k := by
  induction k with
  | zero => rfl
  | succ k ih => simp [chunk, ih]
theorem chunk_hashes (L : List Int) (k : Nat) (hl : 32 * k ≤ L.length) (hb : ∀ x ∈ L, 0 ≤ x ∧ x < 256) : hashes (chunk L k) := by
  induction k with
  | zero => intro l h; simp [chunk] at h
  | succ k ih =>
    intro l h
    simp only [chunk, List.mem_append, List.mem_singleton] at h
    rcases h with h | rfl
    · exact ih (by omega) l h
    · exact ⟨by rw [List.length_take, List.length_drop]; omega, fun x hx => hb x (List.mem_of_mem_drop (List.mem_of_mem_take hx))⟩
theorem chunk_flat (L : List Int) (k : Nat) (hl : 32 * k ≤ L.length) : (chunk L k).flatten = L.take (32 * k) := by
  induction k with
  | zero => simp [chunk]
  | succ k ih =>
    simp only [chunk, List.flatten_append, ih (by omega), List.flatten_cons, List.flatten_nil, List.append_nil]
    rw [show 32 * (k + 1) = 32 * k + 32 by omega, List.take_add]
/-- The slice that the call makes: k hashes. -/
def UnhsRow (w wr : World) (v : Value) (k : Nat) (ls : List (List Int)) : Prop := wr.ownsRow w.heap.size 23 32 v k (cellsL ls) ∧ Below w.heap.size w wr
theorem UnhsRow.lead {w wr : World} {v : Value} {k : Nat} {ls : List (List Int)} (h : UnhsRow w wr v k ls) (hk : ls.length = k) (hs : hashes ls) : ∃ A c, v = .slice A k c ∧ HL wr wr.heap.size A ls ∧ k ≤ c ∧ c ≤ maxLen := by
  obtain ⟨h1, h2⟩ := h
  rcases h1.2 with ⟨rfl, h0⟩ | ⟨g, cap, cur, rfl, _, hg, h3⟩
  · subst h0
    have : ls = [] := List.eq_nil_of_length_eq_zero hk
    subst this
    exact ⟨none, 0, rfl, HL.nil _ _ _, Nat.le_refl _, by decide⟩
  · refine ⟨_, _, rfl, fun i hi => ⟨_, rfl, (Array.getElem?_eq_some_iff.1 hg).1, fun j hj => ?_⟩, h3.1, h3.2.1⟩
    have hlt : i * 32 + j < ls.flatten.length := by rw [flat_length hs]; omega
    refine h1.cells (g := g) rfl _ _ ?_
    unfold cellsL
    rw [List.getElem?_map, List.getElem?_eq_getElem hlt]
    simp only [Option.map_some, Option.some.injEq, Value.int.injEq, true_and]
    have key : ∀ (ls : List (List Int)), hashes ls → ∀ i j, i < ls.length → j < 32 → ls.flatten.getD (i * 32 + j) 0 = (ls.getD i []).getD j 0 := by
      intro ls
      induction ls with
      | nil => intro _ i j h; simp at h
      | cons l r ih =>
        intro hs i j hi hj
        have hl := (hs l (by simp)).1
        cases i with
        | zero => simp only [List.flatten_cons, Nat.zero_mul, Nat.zero_add, List.getD_eq_getElem?_getD]; rw [List.getElem?_append_left (by omega)]; rfl
        | succ i =>
          have e : (i + 1) * 32 + j - l.length = i * 32 + j := by omega
          have := ih (fun x hx => hs x (by simp [hx])) i j (by simpa using hi) hj
          simp only [List.getD_eq_getElem?_getD] at this
          simp only [List.flatten_cons, List.getD_eq_getElem?_getD]
          rw [List.getElem?_append_right (by omega), e, this]
          rfl
    have := key ls hs i j hi hj
    rw [List.getD_eq_getElem?_getD, List.getElem?_eq_getElem hlt] at this
    simpa using this
theorem UnhsRow.next {w wr w3 w1 : World} {v v' : Value} {k : Nat} {ls : List (List Int)} {l : List Int} {C : Array Value} {t : TypeId} (h : UnhsRow w wr v k ls) (hb : Below wr.heap.size wr w3)
    (h1 : w1.ownsRow w.heap.size 23 32 v' (k + 1) (cellsL ls ++ l.map (Value.int .u8))) (hg : (w3.alloc (.cells C t)).grownBy w1 v.ownBlock) : UnhsRow w w1 v' (k + 1) (ls ++ [l]) := by
  refine ⟨by rw [cellsL_snoc]; exact h1, ?_⟩
  have hB := (below_new h.2 hb)
  refine (hB.alloc hB.size _).grown hg (by have := hB.size; simp; omega) (fun g e => ?_)
  rcases h.1.2 with ⟨rfl, _⟩ | ⟨g', cap, cur, rfl, hb', _⟩
  · simp [Value.ownBlock] at e
  · have : g' = g := by simpa [Value.ownBlock] using e
    omega
end Go.Proofs.YtpndccoikhejgaaDoor
namespace Go.Proofs.YtpndccoikhejgaaDoor
open Go.RowKit
set_option linter.unusedVariables false
set_option maxRecDepth 100000

/-- What Unhashes answers. -/
def UnhsPost (s : ByteArray) (w : World) (e : Ending) (w' : World) : Prop := Below w.heap.size w w' ∧ match unhsR s with
  | none => e = .returned (.tuple #[.slice none 0 0, .string ⟨#[]⟩, .bool false])
  | some (n, p) => ∃ A c, e = .returned (.tuple #[.slice A n c, .string ((s.extract p s.size).extract (32 * n) (s.extract p s.size).size), .bool true]) ∧ HL w' w'.heap.size A (chunk (textL (s.extract p s.size)) n) ∧ n ≤ c ∧ c ≤ maxLen
theorem UnhsPost.no {s : ByteArray} {w w' : World} {e : Ending} (h : unhsR s = none) (he : e = .returned (.tuple #[.slice none 0 0, .string ⟨#[]⟩, .bool false])) (hb : Below w.heap.size w w') : UnhsPost s w e w' := by
  refine ⟨hb, ?_⟩
  rw [h]
  exact he
theorem UnhsPost.yes {s T : ByteArray} {w w' : World} {e : Ending} {n p : Nat} {A : Option Addr} {c : Nat} (h : unhsR s = some (n, p)) (hT : T = s.extract p s.size)
    (he : e = .returned (.tuple #[.slice A n c, .string (T.extract (32 * n) T.size), .bool true])) (hA : HL w' w'.heap.size A (chunk (textL T) n)) (hc : n ≤ c ∧ c ≤ maxLen) (hb : Below w.heap.size w w') : UnhsPost s w e w' := by
  subst hT
  refine ⟨hb, ?_⟩
  rw [h]
  exact ⟨A, c, he, hA, hc⟩
theorem ret_tri {a b c a' b' c' : Value} (h : a = a') (h2 : b = b') (h3 : c = c') : Ending.returned (.tuple #[a, b, c]) = .returned (.tuple #[a', b', c']) := by rw [h, h2, h3]
theorem extract_next (T : ByteArray) (k : Nat) : (T.extract (32 * k) T.size).extract 32 (T.extract (32 * k) T.size).size = T.extract (32 * (k + 1)) T.size := by
  apply textL_inj
  rw [textL_rest, textL_rest, textL_rest, List.drop_drop, Nat.mul_succ]
theorem extract_first (T : ByteArray) (k : Nat) : (textL (T.extract (32 * k) T.size)).take 32 = ((textL T).drop (32 * k)).take 32 := by rw [textL_rest]
attribute [local go_sem ↓ high] read_at
set_option maxHeartbeats 2000000 in
set_option maxRecDepth 100000 in
theorem unhashes_any (s : ByteArray) (hs : s.size ≤ maxLen) (w : World) :
    Calls Tryd.prog 69 #[.string s] w fun e w' => UnhsPost s w e w' := by
  rcases hR : readR s with _ | ⟨n, p⟩
  · have hV := Lib.hid (unhsR_none s hR)
    have hc := read_any s hs w
    rw [readV_no s hR] at hc
    clear hR
    go_enter Tryd.func69, Tryd.ntmps69
    go_wp2_with (go_at_call 88; (with_reducible refine hc.mono ?_); rintro e w1 ⟨rfl, k, rfl⟩)
    go_ret3
    exact UnhsPost.no hV.out rfl (below_drewN (Below.refl _ _) _)
  · have hc := read_any s hs w
    rw [readV_yes s n p hR] at hc
    have hn := (readR_lt s n p hR).1
    have HR := Lib.hid hR
    obtain ⟨T, hT⟩ : ∃ T, Hid (T = s.extract p s.size) := ⟨_, Lib.hid rfl⟩
    have hTs : T.size ≤ 9223372036854775807 := by rw [hT.out, ByteArray.size_extract]; unfold maxLen at hs; omega
    rw [← hT.out] at hc
    clear hR
    by_cases hbig : 64 < n
    · have hV := Lib.hid (unhsR_no s n p HR.out (by omega))
      have hd : decide (64 < (n : Int)) = true := decide_eq_true (by omega)
      clear hs
      go_enter Tryd.func69, Tryd.ntmps69
      go_wp2_with (go_at_call 88; (with_reducible refine hc.mono ?_); rintro e w1 ⟨rfl, k, rfl⟩)
      go_ret3
      exact UnhsPost.no hV.out rfl (below_drewN (Below.refl _ _) _)
    · have hd : decide (64 < (n : Int)) = false := decide_eq_false (by omega)
      have hn64 : n ≤ 64 := by omega
      obtain ⟨i0, hi, hz0, hz1, hz2⟩ := info_parts infoHash
      clear hs hbig
      go_enter Tryd.func69, Tryd.ntmps69
      go_wp2_with (go_at_call 88; (with_reducible refine hc.mono ?_); rintro e w1 ⟨rfl, kk, rfl⟩)
      have HB0 : Hid (UnhsRow w (w.drewN kk) (.slice none 0 0) 0 (chunk (textL T) 0)) := Lib.hid ⟨⟨rfl, .inl ⟨rfl, rfl⟩⟩, below_drewN (Below.refl _ _) _⟩
      have hT0 : Hid (T = T.extract (32 * 0) T.size) := Lib.hid (textL_inj _ _ (by rw [textL_rest]; simp))
      go_loopw [2, 3, 6, 7, 8, 22] (fun s2 s3 _ _ _ s22 wr => ∃ k v, s22 = .int .u64 ((k : Nat) : Int) ∧ v = s2 ∧ s3 = .string (T.extract (32 * k) T.size) ∧ k ≤ n ∧ 32 * k ≤ T.size ∧ Hid (UnhsRow w wr v k (chunk (textL T) k))) (fun _ _ _ _ _ s22 _ => (n - intOf s22).toNat)
      case atStart => exact ⟨0, _, rfl, rfl, by rw [← hT0.out], by omega, by omega, HB0⟩
      case round =>
        clear HB0
        obtain ⟨k, v, rfl, rfl, rfl, hk, hkT, HH⟩ := hrel
        obtain ⟨R, hRR⟩ : ∃ R, Hid (R = T.extract (32 * k) T.size) := ⟨_, Lib.hid rfl⟩
        have hRs : Hid (R.size = T.size - 32 * k) := Lib.hid (by rw [hRR.out, ByteArray.size_extract]; omega)
        have hRm : R.size ≤ maxLen := by unfold maxLen; have := hRs.out; omega
        have hU : Hid (∀ W, Calls Tryd.prog 67 #[.string R] W fun e w' => e = .returned (unhV R) ∧ Below W.heap.size W w') := Lib.hid fun W => unhash_any R hRm W
        rw [← hRR.out]
        clear hRm
        by_cases hlt : k < n
        · by_cases h32 : R.size < 32
          · have hV := Lib.hid (unhsR_no s n p HR.out (by rw [← hT.out]; have := hRs.out; omega))
            rw [unhV_no R h32] at hU
            clear h32
            go_wp2_with (first
              | (go_at_call 67; (with_reducible refine (hU.out _).mono ?_); rintro e w2 ⟨rfl, hb⟩; have HB2 := Lib.hid hb; clear hb)
              | (refine wpList_store_fresh rfl 23 _ _ rfl (nums .u8 (List.replicate 32 0)) rfl rfl 23 _ (sizeHash _ (by simp)) (by rw [nums_size]; rfl) (nums_one _ _) ?_; intro w3 hS3 hb3; have HB3 := Lib.hid hb3; clear hS3 hb3))
            go_ret3
            exact UnhsPost.no hV.out rfl (below_new HH.out.2 (below_new HB2.out HB3.out))
          · rw [unhV_yes R h32] at hU
            obtain ⟨l, hl⟩ : ∃ l, Hid (l = (textL R).take 32) := ⟨_, Lib.hid rfl⟩
            rw [← hl.out] at hU
            have hll : Hid (l.length = 32) := Lib.hid (by rw [hl.out, List.length_take, textL_length]; omega)
            clear h32
            go_wp2_with (first
              | (go_at_call 67; (with_reducible refine (hU.out _).mono ?_); rintro e w2 ⟨rfl, hb⟩; have HB2 := Lib.hid hb; clear hb)
              | (refine wpList_store_fresh rfl 23 _ _ rfl (nums .u8 l) rfl rfl 23 _ (sizeHash l hll.out) (by rw [nums_size, hll.out]; rfl) (nums_one _ _) ?_; intro w3 hS3 hb3; have s1 := hS3.read (by rw [nums_size, hll.out]); have HB3 := Lib.hid hb3; clear hS3 hb3)
              | (refine wpList_buildOne rfl _ rfl (nums .u8 l) rfl (by rw [nums_size, hll.out]) ?_)
              | (at_builtin; refine wpList_append_own _ rfl (.tmp 32) (.tmp 34) 27 rfl w.heap.size 23 i0 _ 32 32 Tryd.underlying27 hi hz0 hz1 hz2 (by simp [Value.cells, nums]) (by decide) _ _ _ rfl ((own_below HH.out.1 (below_new HB2.out HB3.out)).alloc _) ⟨w3.heap.size, 0, none⟩ 1 1 (l.map (Value.int .u8)) rfl (by rw [List.length_map, hll.out]) ?cc1 ?cc2 (by unfold maxLen; omega) (by omega) ?cc5 ?_))
            case cc1 =>
              intro j u hj
              rw [add_flat, cell_of_row _ w3.heap.size j _ _ _ (heap_alloc_new w3 _)]
              simpa [nums] using hj
            case cc2 =>
              intro u hu
              obtain ⟨z, _, rfl⟩ := List.mem_map.1 hu
              rfl
            case cc5 => have := (below_new HH.out.2 (below_new HB2.out HB3.out)).size; simp; omega
            intro v' w4 hown hgrow _
            have HN : Hid (UnhsRow w w4 v' (k + 1) (chunk (textL T) (k + 1))) := Lib.hid (by
              have := HH.out.next (below_new HB2.out HB3.out) hown hgrow
              rw [hl.out, hRR.out, extract_first] at this
              exact this)
            clear hown hgrow
            go_wp2
            go_roundw
            case rel => exact ⟨k + 1, _, by go_num, rfl, by rw [hRR.out, extract_next], by omega, by have := hRs.out; have := hll.out; have e := congrArg List.length hl.out; rw [List.length_take, textL_length] at e; omega, HN⟩
            case measure => simp [intOf]; omega
        · have hk9 : Hid (k = n) := Lib.hid (by omega)
          have hV := Lib.hid (unhsR_yes s n p HR.out ⟨hn64, by rw [← hT.out]; have := hk9.out; omega⟩)
          have hR2 : Hid (Value.string R = .string (T.extract (32 * n) T.size)) := Lib.hid (by rw [hRR.out, hk9.out])
          obtain ⟨A, c, hv, hA, hAc⟩ : ∃ A c, Hid (v = .slice A n c) ∧ Hid (HL wr wr.heap.size A (chunk (textL T) n)) ∧ Hid (n ≤ c ∧ c ≤ maxLen) := by
            obtain ⟨A, c, e1, e2, e3⟩ := HH.out.lead (chunk_length _ _) (chunk_hashes _ _ (by rw [textL_length]; exact hkT) (textL_bytes T))
            rw [hk9.out] at e1 e2 e3
            exact ⟨A, c, Lib.hid e1, Lib.hid e2, Lib.hid e3⟩
          go_wp2
          go_ret3
          exact UnhsPost.yes hV.out hT.out (ret_tri hv.out hR2.out rfl) hA.out hAc.out HH.out.2
end Go.Proofs.YtpndccoikhejgaaDoor
namespace Go.Proofs.YtpndccoikhejgaaDoor
open Go.RowKit
set_option linter.unusedVariables false
set_option maxRecDepth 100000

theorem flat_next (ls : List (List Int)) (k : Nat) (hk : k < ls.length) : (ls.take (k + 1)).flatten = (ls.take k).flatten ++ ls.getD k [] := by
  rw [List.take_succ_eq_append_getElem hk, List.flatten_append]
  simp [List.getD_eq_getElem?_getD, List.getElem?_eq_getElem hk]
end Go.Proofs.YtpndccoikhejgaaDoor
namespace Go.Proofs.YtpndccoikhejgaaDoor
open Go.RowKit
set_option linter.unusedVariables false

theorem info_byte : (Tryd.prog.info? 5).map (fun i => (i.zero, i.size, i.bytes)) = some (some (.int .u8 0), 1, 1) := by kernel_rfl
/-- Block g, of capacity cap, begins with the m bytes l; none of its cells is frozen; it is no older than B. -/
def Got (w : World) (B g cap : Nat) (l : List Int) (m : Nat) : Prop :=
  l.length = m ∧ B ≤ g ∧ m ≤ cap ∧ ∃ cur fz, w.heap[g]? = some (.cells cur 5 fz) ∧ (fz = (0, 0) ∨ cur.size ≤ fz.1) ∧ cur.size = cap ∧ cur.toList.take m = l.map (Value.int .u8)
theorem Got.lt {w : World} {B g cap : Nat} {l : List Int} {m : Nat} (h : Got w B g cap l m) : g < w.heap.size := by
  obtain ⟨_, _, _, cur, fz, hr, _⟩ := h
  exact (Array.getElem?_eq_some_iff.1 hr).1
theorem Got.same {w w' : World} {B g cap : Nat} {l : List Int} {m : Nat} (h : Got w B g cap l m) (e : w'.heap[g]? = w.heap[g]?) : Got w' B g cap l m := by
  obtain ⟨h1, h2, h3, cur, fz, hr, h4⟩ := h
  exact ⟨h1, h2, h3, cur, fz, e.trans hr, h4⟩
theorem Got.alloc {w : World} {B g cap : Nat} {l : List Int} {m : Nat} (h : Got w B g cap l m) (o : Obj) : Got (w.alloc o) B g cap l m := h.same (Below.heap_alloc w o g h.lt)
theorem Got.cell {w : World} {B g cap : Nat} {l : List Int} {m : Nat} (h : Got w B g cap l m) (i : Nat) (hi : i < m) : w.cell? ⟨g, i, none⟩ = some (.int .u8 (l.getD i 0)) := by
  obtain ⟨h1, _, h3, cur, fz, hr, _, hc, ht⟩ := h
  rw [cell_of_row w g i cur _ fz hr]
  have e : (cur.toList.take m)[i]? = (l.map (Value.int .u8))[i]? := by rw [ht]
  rw [List.getElem?_take, if_pos hi] at e
  rw [← Array.getElem?_toList, e]
  simp [List.getD, List.getElem?_eq_getElem (show i < l.length by omega)]
theorem take_set_next (L : List Value) (n : Nat) (v : Value) (h : n < L.length) : (L.set n v).take (n + 1) = L.take n ++ [v] := by
  rw [List.take_succ_eq_append_getElem (by simpa using h), List.take_set_of_le (Nat.le_refl _), List.getElem_set_self]
theorem below_setCells_w {B g : Nat} (hg : B ≤ g) : ∀ (vs : List Value) (o : Nat) (w : World), Below B w (w.setCells g o vs)
  | [], _, w => Below.refl _ _
  | v :: r, o, w => ((Below.refl B w).setCell (p := ⟨g, o, none⟩) hg v).trans (below_setCells_w hg r (o + 1) _)
theorem got_cells (g : Nat) (t : TypeId) (fz : Nat × Nat) : ∀ (vs : List Value) (o : Nat) (w : World) (cur : Array Value), w.heap[g]? = some (.cells cur t fz) → o + vs.length ≤ cur.size →
    ∃ cur', (w.setCells g o vs).heap[g]? = some (.cells cur' t fz) ∧ cur'.size = cur.size ∧ cur'.toList.take (o + vs.length) = cur.toList.take o ++ vs
  | [], o, w, cur, h, _ => ⟨cur, h, rfl, by simp⟩
  | v :: r, o, w, cur, h, hl => by
    simp only [List.length_cons] at hl
    have h1 : (w.setCell ⟨g, o, none⟩ v).heap[g]? = some (.cells (cur.setIfInBounds o v) t fz) := by
      rw [setCell_eq_setRow w g o cur _ fz _ h]
      exact setRow_heap w g cur _ _ _ h
    obtain ⟨cur', e1, e2, e3⟩ := got_cells g t fz r (o + 1) (w.setCell ⟨g, o, none⟩ v) _ h1 (by simp; omega)
    refine ⟨cur', e1, by simpa using e2, ?_⟩
    rw [List.length_cons, show o + (r.length + 1) = o + 1 + r.length by omega, e3, Array.toList_setIfInBounds, take_set_next _ _ _ (by simp; omega), List.append_assoc]
    rfl
/-- Bytes more behind a row of the call's own. -/
theorem wpList_append_got {ops : Array Oper} {rest : List Oper} {o : Oper} {a : Act} {Q : Exit → Act → World → Prop} (w : World) (hg : o.guard = none) (s x : Operand)
    (hop : o.op = Op.call { callee := Callee.builtin Builtin.append, args := #[s, x], argTypes := #[48, 48] })
    (B g cap m : Nat) (l : List Int) (hs : a.eval s = .slice (some ⟨g, 0, none⟩) m cap) (G : Got w B g cap l m) (hB : B ≤ w.heap.size) (k n c : Nat) (t : TypeId) (ys : List Int) (hx : a.eval x = .slice (some ⟨k, 0, none⟩) n c) (hn0 : 0 < n)
    (hy : ys.length = n) (hh : Row w k t (nums .u8 ys)) (hm : m + n ≤ 140737488355328)
    (next : ∀ g' cap' w', Got w' B g' cap' (l ++ ys) (m + n) → Below B w w' → wpList Tryd.prog ops Q rest (a.put o.dst (.slice (some ⟨g', 0, none⟩) (m + n) cap')) w') :
    wpList Tryd.prog ops Q (o :: rest) a w := by
  obtain ⟨hlen, hBg, hn, cur, fz, hr, hf, hc, ht⟩ := G
  obtain ⟨i0, hi, hz0, hz1, hz2⟩ := info_parts info_byte
  have hcell : ∀ j, w.cell? ⟨g, j, none⟩ = cur[j]? := fun j => cell_of_row w g j cur _ fz hr
  have hfroz : ∀ j, j < cur.size → w.frozen? ⟨g, j, none⟩ = false := fun j hj => by
    obtain ⟨lo, hi'⟩ := fz
    rcases hf with hf | hf
    · simp only [Prod.mk.injEq] at hf; obtain ⟨rfl, rfl⟩ := hf; exact frozen_of_row w g j cur _ hr
    · have : ¬ lo ≤ j := by simp at hf; omega
      simp [World.frozen?, hr, this]
  have hadd : ∀ j, (⟨k, 0, none⟩ : Addr).add j = ⟨k, j, none⟩ := fun j => by unfold Addr.add; split <;> simp_all
  refine wpList_append_arg w hg s x _ hop 5 i0 (.int .u8 0) 1 1 Tryd.underlying48 hi hz0 hz1 hz2 rfl (by decide) g 0 m cap (l.map (Value.int .u8)) hs (by simp [hlen]) ?olds ⟨k, 0, none⟩ n c (ys.map (Value.int .u8)) hx (by simp [hy]) ?c1 ?c2 ?spare (by unfold maxLen; omega) (by omega) ?room ?grow
  case olds =>
    intro j u hu
    rw [Nat.zero_add, hcell]
    rw [← ht, List.getElem?_take] at hu
    split at hu
    · simpa using hu
    · cases hu
  case c1 =>
    intro j u hj
    rw [hadd, hh.cell j]
    simpa [nums] using hj
  case c2 =>
    intro u hu
    obtain ⟨z, _, rfl⟩ := List.mem_map.1 hu
    rfl
  case spare =>
    intro hr' j hj
    have hj0 : j < n := by simpa [hy] using hj
    rw [Nat.zero_add, Nat.mul_one, hcell, hfroz (m + j) (by omega)]
    exact ⟨by simp; omega, rfl⟩
  case room =>
    intro hr'
    obtain ⟨cur', e1, e2, e3⟩ := got_cells g _ fz (ys.map (Value.int .u8)) m w cur hr (by simp; omega)
    rw [show 0 + m * 1 = m by omega]
    refine next g cap _ ⟨by simp [hlen, hy], hBg, hr', cur', fz, e1, by rw [e2]; exact hf, by rw [e2]; exact hc, ?_⟩ (below_setCells_w hBg _ _ _)
    rw [List.length_map, hy] at e3
    rw [e3, ht, List.map_append]
  case grow =>
    intro hg' v' w' hown hgr
    obtain ⟨_, h2⟩ := hown
    rcases h2 with ⟨_, h0⟩ | ⟨g', cap', cur', hv, hb', hcell', hn', hm', hcs, htk⟩
    · omega
    · subst hv
      exact next g' cap' w' ⟨by simp [hlen, hy], by omega, hn', cur', (0, 0), hcell', .inl rfl, by omega, by rw [Nat.mul_one] at htk; rw [htk, List.map_append]⟩ ((Below.refl _ _).grown hgr hB (fun k h => by cases h))
theorem conv_text (w : World) (s : ByteArray) : ∃ wb cap, (convert 9 48 (.string s)).run Tryd.prog w = .ok (.slice (some ⟨w.heap.size, 0, none⟩) s.size cap) wb ∧ Hid (Got wb w.heap.size w.heap.size cap (textL s) s.size) ∧ Hid (Below w.heap.size w wb) := by
  refine ⟨_, _, Lib.run_convert_string_bytes w 9 48 5 s Tryd.underlying9 Tryd.underlying48 Tryd.underlying5, Lib.hid ⟨textL_length s, Nat.le_refl _, grownCap_ge w s.size 0 _, Lib.bytesCells w 5 s, _, Lib.bytesWorld_at_new w 5 s, .inr (Nat.le_refl _), ?_, ?_⟩, Lib.hid ⟨?_, ?_, ?_, ?_, fun j hj => Lib.bytesWorld_at_old w 5 s j hj⟩⟩
  · have := grownCap_ge w s.size 0 5
    have e : s.data.size = s.size := rfl
    simp [Lib.bytesCells, e]; omega
  · have e : s.data.toList.length = s.size := by rw [Array.length_toList]; rfl
    simp only [Lib.bytesCells, Array.toList_append, Array.toList_map]
    rw [List.take_append_of_le_length (by simp [e]), List.take_of_length_le (by simp [e]), textL, List.map_map]; rfl
  · rfl
  · rfl
  · rfl
  · rw [Lib.bytesWorld_size]; omega
end Go.Proofs.YtpndccoikhejgaaDoor
namespace Go.Proofs.YtpndccoikhejgaaDoor
open Go.RowKit
set_option linter.unusedVariables false

/-- A number's bytes, as a text. -/
def numS (n : Nat) : ByteArray := strOfNums (Codec.numL n)
theorem numS_size (n : Nat) (h : n < 18446744073709551616) : (numS n).size ≤ 10 := by
  unfold numS; rw [strOfNums_size]; exact Codec.numL_length n h
set_option maxRecDepth 100000 in
theorem or128 (v : Nat) : bits .or .u8 ((v : Int) % 256) 128 = ((v % 128 + 128 : Nat) : Int) := by
  rw [show (v : Int) % 256 = ((v % 256 : Nat) : Int) by omega]
  have key : ∀ x : Fin 256, bits .or .u8 ((x.val : Nat) : Int) 128 = ((x.val % 128 + 128 : Nat) : Int) := by decide +kernel
  have h := key ⟨v % 256, Nat.mod_lt _ (by decide)⟩
  rw [h]
  show (((v % 256) % 128 + 128 : Nat) : Int) = _
  rw [Nat.mod_mod_of_dvd v (show 128 ∣ 256 by decide)]
/-- The ten bytes, of which the last ones are filled. -/
def numRow (L : List Int) : List Int := List.replicate (10 - L.length) 0 ++ L
theorem numRow_set (L : List Int) (x : Int) (h : L.length ≤ 9) : (numRow L).set (10 - L.length - 1) x = numRow (x :: L) := by
  unfold numRow
  rw [show 10 - L.length = (10 - (x :: L).length) + 1 by simp; omega, List.replicate_succ', List.append_assoc, List.set_append_right _ _ (by simp)]
  simp
def NumHead (n : Nat) (w wr : World) (v : Nat) (L : List Int) : Prop :=
  Codec.numL n = Codec.upN v ++ L ∧ v < 18446744073709551616 ∧ (1 ≤ L.length ∧ L.length ≤ 10) ∧ (0 < v → L.length ≤ 9) ∧ Row wr w.heap.size 89 (nums .u8 (numRow L)) ∧ Below w.heap.size w wr
set_option maxRecDepth 100000 in
theorem NumHead.start (n : Nat) (hn : n < 18446744073709551616) (w : World) :
    NumHead n w (w.alloc (.cells #[.int .u8 0, .int .u8 0, .int .u8 0, .int .u8 0, .int .u8 0, .int .u8 0, .int .u8 0, .int .u8 0, .int .u8 0, .int .u8 ((n : Int) % 128)] 89)) (n / 128) [((n % 128 : Nat) : Int)] :=
  ⟨rfl, by omega, by simp, by simp, Row.made w 89 (nums .u8 (numRow [((n % 128 : Nat) : Int)])), (Below.refl _ _).alloc (Nat.le_refl _) _⟩
theorem NumHead.next {n : Nat} {w wr : World} {v : Nat} {L : List Int} (hn : n < 18446744073709551616) (H : NumHead n w wr v L) (hv : 0 < v) :
    NumHead n w (wr.setCell ⟨w.heap.size, 10 - L.length - 1, none⟩ (.int .u8 ((v % 128 + 128 : Nat) : Int))) (v / 128) (((v % 128 + 128 : Nat) : Int) :: L) := by
  obtain ⟨h1, h2, h3, h4, h5, h6⟩ := H
  have h9 := h4 hv
  have e : Codec.numL n = Codec.upN (v / 128) ++ ((v % 128 + 128 : Nat) : Int) :: L := by rw [h1, Codec.upN_pos v hv (by omega)]; simp
  refine ⟨e, by omega, by simp; omega, fun h => ?_, ?_, h6.setCell (Nat.le_refl _) _⟩
  · have hl := congrArg List.length e
    rw [Codec.upN_pos (v / 128) h (by omega)] at hl
    have := Codec.numL_length n hn
    simp at hl; simp; omega
  · have := h5.numPut (10 - L.length - 1) ((v % 128 + 128 : Nat) : Int)
    rwa [numRow_set L _ h9] at this
theorem ret_val {k : IntKind} {a b : Int} (h : a = b) : Value.int k a = Value.int k b := by rw [h]
theorem one8b (w : World) : (sizeOf (Tryd.prog.elem 89)).run Tryd.prog w = .ok 1 w := by kernel_rfl
set_option maxRecDepth 100000 in
theorem slice10 (g a : Nat) (h : a < 10) (w : World) : (Instr.sliceAt 89 (.pointer (some ⟨g, 0, none⟩)) (some (.int .i64 (a : Int))) none none).run Tryd.prog w = .ok (.slice (some ⟨g, a, none⟩) (10 - a) (10 - a)) w := by
  have e : Tryd.prog.arrayLen 89 = 10 := by kernel_rfl
  rw [run_sliceAt_array_l w 89 ⟨g, 0, none⟩ (by kernel_rfl) .i64 (a : Int) (by omega) (by rw [e]; omega), one8b, e]
  simp only [Result.andThen, slicedAt, Int.toNat_natCast, if_neg (show ¬ 10 = a by omega), Nat.mul_one]
  congr 4
  unfold Addr.add
  split <;> simp_all
theorem NumHead.text {n : Nat} {w wr : World} {v : Nat} {L : List Int} (H : NumHead n w wr v L) (hv : v = 0) :
    (convert 48 9 (.slice (some ⟨w.heap.size, 10 - L.length, none⟩) (10 - (10 - L.length)) (10 - (10 - L.length)))).run Tryd.prog wr = .ok (.string (numS n)) wr := by
  obtain ⟨h1, h2, h3, h4, h5, h6⟩ := H
  subst hv
  rw [Codec.upN_zero, List.nil_append] at h1
  unfold numS
  rw [h1]
  exact run_convert_bytes_arg wr 48 5 Tryd.underlying48 Tryd.underlying5 w.heap.size (10 - L.length) _ _ L (by omega) (fun i hi => by
    have := h5.num (i := 10 - L.length + i) (by simp [numRow]; omega)
    rw [this]
    unfold numRow
    rw [List.getD_eq_getElem?_getD, List.getElem?_append_right (by simp)]
    simp [List.getD_eq_getElem?_getD]) 9 Tryd.underlying9
set_option maxHeartbeats 1000000 in
set_option maxRecDepth 100000 in
theorem num_any (n : Nat) (hn : n < 18446744073709551616) (w : World) :
    Calls Tryd.prog 28 #[.int .u64 (n : Int)] w fun e w' => e = .returned (.string (numS n)) ∧ Below w.heap.size w w' := by
  have H0 := Lib.hid (NumHead.start n hn w)
  go_enter Tryd.func28, Tryd.ntmps28
  go_wp2
  go_loopw [0, 4] (fun s0 s4 wr => ∃ v L, s0 = .int .u64 ((v : Nat) : Int) ∧ s4 = .int .i64 ((10 - L.length : Nat) : Int) ∧ Hid (NumHead n w wr v L)) (fun s0 _ _ => (intOf s0).toNat)
  case atStart => exact ⟨n / 128, [((n % 128 : Nat) : Int)], by go_num, rfl, H0⟩
  case round =>
    clear H0
    obtain ⟨v, L, rfl, rfl, HH⟩ := hrel
    have hvb := HH.out.2.1
    by_cases hv : 0 < v
    · have hL := HH.out.2.2.2.1 hv
      have hc := HH.out.2.2.2.2.1.num (i := 10 - L.length - 1) (by simp [numRow]; omega)
      have hf := HH.out.2.2.2.2.1.free (10 - L.length - 1)
      have ho := or128 v
      obtain ⟨a, ha⟩ : ∃ a : Nat, Hid (a = 10 - L.length) := ⟨_, Lib.hid rfl⟩
      have ha1 : 1 ≤ a := by have := ha.out; omega
      have ha2 : a ≤ 10 := by have := ha.out; omega
      rw [← ha.out] at hc hf ⊢
      go_wp2
      go_roundw
      case rel =>
        have h1 := HH.out.next hn hv
        rw [← ha.out, show (((v % 128 + 128 : Nat) : Int)) = (v : Int) % 128 + 128 by omega] at h1
        exact ⟨v / 128, _ :: L, by go_num, ret_val (by have := ha.out; simp; omega), Lib.hid h1⟩
      case measure => simp [intOf]; omega
    · have ht := HH.out.text (by omega)
      obtain ⟨a, ha⟩ : ∃ a : Nat, Hid (a = 10 - L.length) := ⟨_, Lib.hid rfl⟩
      have ha2 : a < 10 := by have := ha.out; have := HH.out.2.2.1; omega
      have hs := slice10 w.heap.size a ha2
      rw [← ha.out] at ht ⊢
      have HB := Lib.hid HH.out.2.2.2.2.2
      have hz : v = 0 := by omega
      subst hz
      go_wp2
      go_ret
      exact ⟨rfl, HB.out⟩
end Go.Proofs.YtpndccoikhejgaaDoor
