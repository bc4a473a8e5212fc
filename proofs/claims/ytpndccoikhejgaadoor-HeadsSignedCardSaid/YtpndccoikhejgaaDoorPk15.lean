/-
  Several texts in one (a claim has room for 60 files): ByteTwo, RefSign, ListSet, RefUnhash.
-/
import Derived.Test.YtpndccoikhejgaaDoorPk14
import Derived.Maps.AppendAt
import Derived.Test.YtpndccoikhejgaaDoorPk06
import Derived.Test.YtpndccoikhejgaaDoorPk04
import Derived.Deep.MidRow
namespace Go.Proofs.YtpndccoikhejgaaDoor
open Go.RowKit Go.Great
set_option linter.unusedVariables false
set_option maxRecDepth 100000

/-- Bytes are appended to one's own; they stay where they are, or lie in a new block. -/
theorem wp_appendB_at {o : Oper} {a : Act} {w : World} {K : Act → World → Prop} {Q : Exit → Act → World → Prop} (s x : Operand) (ho : o.op = .call { callee := .builtin .append, args := #[s, x], argTypes := #[48, 48] })
    (B : Nat) (v : Value) (n : Nat) (bs us : List Int) (hsv : a.eval s = v) (hown : w.ownsRow B 5 1 v n (cellsB bs)) (ad : Addr) (m c : Nat) (hx : a.eval x = .slice (some ad) m c) (hm : us.length = m) (hU : BytesAt w ad us) (hsm : n + m ≤ 100000) (hB : B ≤ w.heap.size)
    (h : ∀ v' w', w'.ownsRow B 5 1 v' (n + m) (cellsB (bs ++ us)) → w.grownBy w' v.ownBlock → (v'.ownBlock = v.ownBlock ∨ v'.ownBlock = some w.heap.size) → K (a.put o.dst v') w') : o.wp Tryd.prog a w K Q := by
  obtain ⟨i0, hi, hz0, hz1, hz2⟩ := info_parts info_byte
  subst hm
  have hnews : ∀ j u, (cellsB us)[j]? = some u → w.cell? (ad.add j) = some u := fun j u hj => by
    have hj2 : j < us.length := by
      rcases Nat.lt_or_ge j us.length with h' | h'
      · exact h'
      · rw [List.getElem?_eq_none (by rw [cellsB_length]; exact h')] at hj; cases hj
    rw [cellsB_get us j hj2] at hj
    cases hj
    exact hU j hj2
  obtain ⟨v', w', hr, h2, h3, h4, h5⟩ := run_append_own_at (P := Tryd.prog) w B 48 o.type 5 i0 _ 1 1 Tryd.underlying48 hi hz0 hz1 hz2 rfl (by decide) v n (cellsB bs) hown ad us.length c (cellsB us) (by rw [cellsB_length, Nat.mul_one]) hnews (cellsB_one us) (by unfold maxLen; omega) (by omega) hB
  unfold Oper.wp execOp
  simp only [ho, resolve, invoke, builtin, Sem.run_bind, Sem.run_pure, Result.andThen_ok, List.map_toArray, List.map_cons, List.map_nil, hsv, hx, hr]
  exact h v' w' (by rw [cellsB_app]; exact h2) h3 h5
/-- Two slices of the call's own. -/
structure TwoB (B : Nat) (w : World) (v1 v2 : Value) (n1 n2 : Nat) (b1 b2 : List Int) : Prop where
  fst : w.ownsRow B 5 1 v1 n1 (cellsB b1)
  snd : w.ownsRow B 5 1 v2 n2 (cellsB b2)
  ne : v1.ownBlock = none ∨ v1.ownBlock ≠ v2.ownBlock
theorem TwoB.start (B : Nat) (w : World) : TwoB B w (.slice none 0 0) (.slice none 0 0) 0 0 [] [] := ⟨World.ownsRow_nil _ _ _ _, World.ownsRow_nil _ _ _ _, .inl rfl⟩
theorem TwoB.ne' {B : Nat} {w : World} {v1 v2 : Value} {n1 n2 : Nat} {b1 b2 : List Int} (h : TwoB B w v1 v2 n1 n2 b1 b2) : v2.ownBlock = none ∨ v2.ownBlock ≠ v1.ownBlock := by
  rcases h.ne with e | e
  · rw [e]; exact Classical.em _
  · exact .inr fun e' => e e'.symm
theorem TwoB.next {B : Nat} {w w' : World} {v1 v2 : Value} {n1 n2 : Nat} {b1 b2 : List Int} (h : TwoB B w v1 v2 n1 n2 b1 b2) (hb : Below w.heap.size w w') : TwoB B w' v1 v2 n1 n2 b1 b2 :=
  ⟨own_below h.fst hb, own_below h.snd hb, h.ne⟩
theorem TwoB.putA {B : Nat} {w w' : World} {v1 v2 v1' : Value} {n1 n2 m : Nat} {b1 b2 us : List Int} (h : TwoB B w v1 v2 n1 n2 b1 b2) (h1 : w'.ownsRow B 5 1 v1' m (cellsB us)) (hg : w.grownBy w' v1.ownBlock) (ha : v1'.ownBlock = v1.ownBlock ∨ v1'.ownBlock = some w.heap.size) : TwoB B w' v1' v2 m n2 us b2 := by
  refine ⟨h1, h.snd.kept hg h.ne', ?_⟩
  rcases ha with e | e
  · rw [e]; exact h.ne
  · refine .inr fun e' => ?_
    have := (h.snd.lt _ (e'.symm.trans e)).2
    omega
theorem TwoB.putB {B : Nat} {w w' : World} {v1 v2 v2' : Value} {n1 n2 m : Nat} {b1 b2 us : List Int} (h : TwoB B w v1 v2 n1 n2 b1 b2) (h1 : w'.ownsRow B 5 1 v2' m (cellsB us)) (hg : w.grownBy w' v2.ownBlock) (ha : v2'.ownBlock = v2.ownBlock ∨ v2'.ownBlock = some w.heap.size) : TwoB B w' v1 v2' n1 m b1 us := by
  refine ⟨h.fst.kept hg h.ne, h1, ?_⟩
  rcases ha with e | e
  · rw [e]; exact h.ne
  · refine .inr fun e' => ?_
    have := (h.fst.lt _ (e'.trans e)).2
    omega
/-- Below a mark nothing turns when one's own bytes grow. -/
theorem own_grown {B n : Nat} {w w' : World} {v : Value} {bs : List Int} (h : w.ownsRow B 5 1 v n (cellsB bs)) (hg : w.grownBy w' v.ownBlock) (hB : B ≤ w.heap.size) : Below B w w' := (Below.refl B w).grown hg hB (fun k hk => (h.lt k hk).1)
end Go.Proofs.YtpndccoikhejgaaDoor
namespace Go.Proofs.YtpndccoikhejgaaDoor
open Go.RowKit Go.Great
set_option linter.unusedVariables false
set_option maxRecDepth 100000

/-- What Sign holds: the digest, a key's public hashes, and what it has of the signature's two parts. -/
structure SignH (w : World) (B : Nat) (wr : World) (D : Array Value) (ad : Addr) (ls : List (List Int)) (v1 v2 : Value) (n1 n2 : Nat) (b1 b2 : List Int) : Prop where
  dig : Row wr w.heap.size 23 D
  lst : HL wr B (some ad) ls
  two : TwoB B wr v1 v2 n1 n2 b1 b2
  below : Below w.heap.size w wr
  lo : w.heap.size < B
  hi : B ≤ wr.heap.size
section
variable {w wr w1 : World} {B : Nat} {D : Array Value} {ad : Addr} {ls : List (List Int)} {v1 v2 v' : Value} {n1 n2 m : Nat} {b1 b2 us : List Int}
theorem SignH.next (h : SignH w B wr D ad ls v1 v2 n1 n2 b1 b2) (hb : Below wr.heap.size wr w1) : SignH w B w1 D ad ls v1 v2 n1 n2 b1 b2 :=
  ⟨h.dig.next hb, h.lst.next hb h.hi, h.two.next hb, below_new h.below hb, h.lo, Nat.le_trans h.hi hb.size⟩
theorem SignH.putA (h : SignH w B wr D ad ls v1 v2 n1 n2 b1 b2) (h1 : w1.ownsRow B 5 1 v' m (cellsB us)) (hg : wr.grownBy w1 v1.ownBlock) (ha : v'.ownBlock = v1.ownBlock ∨ v'.ownBlock = some wr.heap.size) : SignH w B w1 D ad ls v' v2 m n2 us b2 :=
  have hb := own_grown h.two.fst hg h.hi
  ⟨h.dig.below hb h.lo, h.lst.next hb (Nat.le_refl _), h.two.putA h1 hg ha, h.below.trans (hb.mono (Nat.le_of_lt h.lo)), h.lo, Nat.le_trans h.hi hb.size⟩
theorem SignH.putB (h : SignH w B wr D ad ls v1 v2 n1 n2 b1 b2) (h1 : w1.ownsRow B 5 1 v' m (cellsB us)) (hg : wr.grownBy w1 v2.ownBlock) (ha : v'.ownBlock = v2.ownBlock ∨ v'.ownBlock = some wr.heap.size) : SignH w B w1 D ad ls v1 v' n1 m b1 us :=
  have hb := own_grown h.two.snd hg h.hi
  ⟨h.dig.below hb h.lo, h.lst.next hb (Nat.le_refl _), h.two.putB h1 hg ha, h.below.trans (hb.mono (Nat.le_of_lt h.lo)), h.lo, Nat.le_trans h.hi hb.size⟩
end
attribute [local go_sem ↓ high] read_at write_at
end Go.Proofs.YtpndccoikhejgaaDoor
namespace Go.Proofs.YtpndccoikhejgaaDoor
open Go.RowKit Go.Great
set_option linter.unusedVariables false
set_option maxRecDepth 100000

theorem setL_hashes {ls : List (List Int)} (h : hashes ls) (k : Nat) (l : List Int) (hl : l.length = 32 ∧ bytes l) : hashes (ls.set k l) := fun x hx => by
  rcases List.mem_or_eq_of_mem_set hx with hx | rfl
  · exact h x hx
  · exact hl
theorem setL_getD (ls : List (List Int)) (k i : Nat) (l : List Int) (hi : i < ls.length) : (ls.set k l).getD i [] = if i = k then l else ls.getD i [] := by
  rw [List.getD_eq_getElem?_getD, List.getElem?_set]
  by_cases h : k = i
  · subst h; rw [if_pos rfl, if_pos hi, if_pos rfl]; rfl
  · rw [if_neg h, if_neg (fun e => h e.symm), ← List.getD_eq_getElem?_getD]
theorem own_room {w : World} {base g n cap : Nat} {xs : List Value} (h : w.ownsRow base 23 32 (.slice (some ⟨g, 0, none⟩) n cap) n xs) (k : Nat) (hk : k < n) : w.there g (k * 32) 32 := by
  rcases h.2 with ⟨h0, _⟩ | ⟨g', cap', cur, hv, hb, hg, hn, _, hsz, _⟩
  · cases h0
  · cases hv
    refine fun j hj => ⟨?_, frozen_of_row w g _ cur _ hg⟩
    rw [cell_of_row w g _ cur _ _ hg, Array.getElem?_eq_getElem (by rw [hsz]; have := Nat.mul_le_mul_right 32 (show k + 1 ≤ cap by omega); omega)]
    rfl
/-- A hash into a place of a slice. -/
theorem HL.set {wr : World} {B g : Nat} {ls : List (List Int)} (h : HL wr B (Option.some ⟨g, 0, none⟩) ls) (k : Nat) (hk : k < ls.length) (x : List Int) (hx : x.length = 32) (ht : wr.there g (k * 32) 32) : HL (wr.setCells g (k * 32) (nums .u8 x).toList) B (Option.some ⟨g, 0, none⟩) (ls.set k x) := by
  have hvl : (nums .u8 x).toList.length = 32 := by rw [Array.length_toList, nums_size, hx]
  intro i hi
  rw [List.length_set] at hi
  obtain ⟨ad, e, hlt, hc⟩ := h i hi
  cases e
  refine ⟨_, rfl, hlt, fun j hj => ?_⟩
  have hcj := hc j hj
  rw [add_flat] at hcj ⊢
  rw [setL_getD ls k i x hi]
  by_cases hik : i = k
  · subst hik
    rw [if_pos rfl, World.cell?_setCells_in g _ _ wr (fun q hq => (ht q (by omega)).1) j (by omega)]
    have e := nums_get .u8 x j (by omega)
    rw [← Array.getElem?_toList, List.getElem?_eq_getElem (by omega)] at e
    exact e
  · rw [if_neg hik, World.cell?_setCells_out g _ _ wr ⟨g, i * 32 + j, none⟩ (fun _ _ => by
      rw [hvl]
      rcases Nat.lt_or_gt_of_ne hik with h' | h'
      · left; have := Nat.mul_le_mul_right 32 (show i + 1 ≤ k by omega); show i * 32 + j < k * 32; omega
      · right; have := Nat.mul_le_mul_right 32 (show k + 1 ≤ i by omega); show k * 32 + 32 ≤ i * 32 + j; omega)]
    exact hcj
theorem size_setCells (b : Nat) : ∀ (vs : List Value) (o : Nat) (w : World), (w.setCells b o vs).heap.size = w.heap.size
  | [], _, _ => rfl
  | v :: r, o, w => by rw [World.setCells, size_setCells b r]; simp
end Go.Proofs.YtpndccoikhejgaaDoor
namespace Go.Proofs.YtpndccoikhejgaaDoor
open Go.RowKit
set_option linter.unusedVariables false
set_option maxRecDepth 100000

theorem take_moreU (l : List Int) (k : Nat) (h : k < l.length) : l.take (k + 1) = l.take k ++ [l.getD k 0] := by
  rw [List.take_succ_eq_append_getElem h]
  simp [List.getD, List.getElem?_eq_getElem h]
/-- What holds at the head of the rounds of the document's Unhash. -/
def UnhHead (w wr : World) (s : ByteArray) (k : Nat) : Prop :=
  Row wr w.heap.size 23 (nums .u8 (List.replicate 32 0)) ∧ Row wr (w.heap.size + 1) 23 (nums .u8 ((textL s).take k ++ List.replicate (32 - k) 0)) ∧ Below w.heap.size w wr
theorem UnhHead.start (w : World) (s : ByteArray) : UnhHead w ((w.alloc (.cells (nums .u8 (List.replicate 32 0)) 23)).alloc (.cells (nums .u8 (List.replicate 32 0)) 23)) s 0 :=
  ⟨(Row.made _ _ _).alloc _, Row.made2 _ _ _ _, ((Below.refl _ _).alloc (Nat.le_refl _) _).alloc (by simp) _⟩
theorem UnhHead.next {w wr : World} {s : ByteArray} {k : Nat} (H : UnhHead w wr s k) (hk : k < 32) (hs : k < s.size) : UnhHead w (wr.setCell ⟨w.heap.size + 1, k, none⟩ (.int .u8 ((s[k].toNat : Nat) : Int))) s (k + 1) := by
  refine ⟨H.1.far (by simp) _, ?_, H.2.2.setCell (by simp) _⟩
  have h := H.2.1.numPut k ((s[k].toNat : Nat) : Int)
  have hl : ((textL s).take k).length = k := by rw [List.length_take, textL_length]; omega
  have e : ((textL s).take k ++ List.replicate (32 - k) 0).set k ((s[k].toNat : Nat) : Int) = (textL s).take (k + 1) ++ List.replicate (32 - (k + 1)) 0 := by
    rw [show 32 - k = (32 - (k + 1)) + 1 by omega, List.replicate_succ, List.set_append_right _ _ (by omega), hl, Nat.sub_self, List.set_cons_zero, take_moreU (textL s) k (by rw [textL_length]; exact hs), textL_getD s k hs]
    simp
  rwa [e] at h
attribute [local go_sem ↓ high] read_at write_at
set_option maxHeartbeats 1000000 in
set_option maxRecDepth 100000 in
theorem refUnhash_any (s : ByteArray) (hs : s.size ≤ maxLen) (w : World) :
    Calls Tryd.prog 46 #[.string s] w fun e w' => e = .returned (unhV s) ∧ Below w.heap.size w w' := by
  unfold maxLen at hs
  have H0 := Lib.hid (UnhHead.start w s)
  have h6 : Hid ((Tryd.prog.info? 23).map (·.size) = some (nums .u8 (List.replicate 32 0)).size) := Lib.hid (by kernel_rfl)
  have h3 := nums_one .u8 (List.replicate 32 0)
  go_enter Tryd.func46, Tryd.ntmps46
  go_upto_region 1 with fail
  go_cut [2, 3, 4, 5] (fun s2 s3 s4 s5 wx => s2 = .pointer (some ⟨w.heap.size, 0, none⟩) ∧ s3 = .string ⟨#[]⟩ ∧ s4 = .bool false ∧ s5 = .pointer (some ⟨w.heap.size + 1, 0, none⟩) ∧ Hid (UnhHead w wx s 0))
  case first =>
    go_wp2_with fail
    go_meet
    exact ⟨rfl, rfl, rfl, rfl, H0⟩
  case rest =>
  obtain ⟨rfl, rfl, rfl, rfl, HH⟩ := hcut
  clear H0
  by_cases hlt : s.size < 32
  · have hV := Lib.hid (unhV_no s hlt)
    have hd : decide ((s.size : Int) < 32) = true := decide_eq_true (by omega)
    have h1 := HH.out.1
    have h2 : Row wc (w.heap.size + 1) 23 (nums .u8 (List.replicate 32 0)) := by have := HH.out.2.1; simpa using this
    have HB := Lib.hid HH.out.2.2
    clear HH
    go_wp2_with (first
      | (refine wpList_load_row rfl 23 _ rfl (w.heap.size + 1) rfl 23 _ (0, 0) _ h2 Tryd.underlying23 rfl h6.out ?_)
      | (refine wpList_store_row rfl 23 _ _ rfl w.heap.size (nums .u8 (List.replicate 32 0)) rfl rfl 23 _ h1 h6.out rfl h3 ?_))
    refine bodyPost_ret (results_row3b (p := 2) (u := 3) (v := 4) rfl _ _ w.heap.size 23 _ (0, 0) _ rfl (h1.whole _) Tryd.underlying23 rfl h6.out) rfl ⟨ret_unh hV.out, below_setRow HB.out (Nat.le_refl _)⟩
  · have hV := Lib.hid (unhV_yes s hlt)
    have hd : decide ((s.size : Int) < 32) = false := decide_eq_false (by omega)
    have h32 : 32 ≤ s.size := by omega
    clear hlt
    go_wp2
    go_loopw [6] (fun s6 wr => ∃ k : Nat, k ≤ 32 ∧ s6 = .int .i64 ((k : Nat) : Int) ∧ Hid (UnhHead w wr s k)) (fun s6 _ => (32 - intOf s6).toNat)
    case atStart => exact ⟨0, by omega, rfl, HH⟩
    case round =>
      clear HH
      obtain ⟨k, hk, rfl, HH⟩ := hrel
      by_cases hlt : k < 32
      · have hks : k < s.size := by omega
        have hc := HH.out.2.1.num (i := k) (by rw [List.length_append, List.length_take, textL_length]; simp; omega)
        have hf := HH.out.2.1.free k
        go_wp2
        go_roundw
        case rel => exact ⟨k + 1, by omega, by go_num, Lib.hid (HH.out.next hlt hks)⟩
        case measure => simp [intOf]; omega
      · have hk9 : Hid (k = 32) := Lib.hid (by omega)
        obtain ⟨C, hC⟩ : ∃ C, Hid (C = nums .u8 ((textL s).take 32)) := ⟨_, Lib.hid rfl⟩
        have zC : Hid (C.size = 32) := Lib.hid (by rw [hC.out, nums_size, List.length_take, textL_length]; omega)
        have oC : Hid (C.all (·.oneCell') = true) := Lib.hid (by rw [hC.out]; exact nums_one _ _)
        have h2 : Hid (Row wr (w.heap.size + 1) 23 C) := Lib.hid (by
          have h := HH.out.2.1
          rw [hk9.out] at h
          rw [hC.out]
          simpa using h)
        have zZ : Hid ((nums .u8 (List.replicate 32 0)).size = 32) := Lib.hid (by rw [nums_size]; simp)
        rw [← hC.out] at hV
        have s1 := h2.out.drew.read zC.out
        have s2 := HH.out.1.drew.write zZ.out zC.out oC.out
        go_wp2_with fail
        go_region
        all_goals
          go_wp2
          refine bodyPost_ret (results_row3b (p := 2) (u := 3) (v := 4) rfl _ _ w.heap.size 23 _ (0, 0) _ rfl (HH.out.1.drew.whole _) Tryd.underlying23 rfl (sizeH _ zC.out)) rfl ⟨ret_unh hV.out, below_setRow HH.out.2.2.drew (Nat.le_refl _)⟩
end Go.Proofs.YtpndccoikhejgaaDoor
