/-
  The walk of merged (layer 5): a range, up to a size, with the parts behind it. Conditions: the two tables as they were laid, a range that may be, lists of hashes in memory, as many roots as there are parts. What it makes is new memory; nothing that was there changes.
-/
import Derived.Test.YtfakimbneenfdaaDoorListMem
import Derived.Test.YtfakimbneenfdaaDoorRangeJoin
namespace Go.Proofs.YtfakimbneenfdaaDoor
open Go.RowKit
set_option linter.unusedVariables false
set_option maxRecDepth 100000

theorem own_IL {w : World} {B q pc : Nat} {A : Option Addr} {ns : List Nat} (h : w.ownsRow B 3 1 (.slice A q pc) q (numsI ns)) (hq : q = ns.length) : IL w w.heap.size A ns := by
  subst hq
  rcases h.2 with ⟨hv, h0⟩ | ⟨g, cap, cur, hv, hB, hg, _⟩
  · rw [List.eq_nil_of_length_eq_zero h0]; exact fun i hi => by simp at hi
  · cases hv
    exact fun i hi => ⟨_, rfl, (Array.getElem?_eq_some_iff.1 hg).1, h.cells (g := g) rfl _ _ (numsI_get ns i hi)⟩
/-- What merged holds: its range, its result, the parts. -/
structure MergeH (w wr : World) (s : Int) (A : Option Addr) (k c : Nat) (hs : List (List Int)) (P : Option Addr) (q pc : Nat) (ns : List Nat) : Prop where
  rg : Row wr w.heap.size 24 #[.int .i64 s, .slice A k c]
  out : Row wr (w.heap.size + 1) 24 #[.int .i64 0, .slice none 0 0]
  own : wr.ownsRow (w.heap.size + 2) 31 32 (.slice A k c) k (cellsL hs)
  parts : wr.ownsRow (w.heap.size + 2) 3 1 (.slice P q pc) q (numsI ns)
  size : w.heap.size + 2 ≤ wr.heap.size
  below : Below w.heap.size w wr
theorem MergeH.drew {w wr : World} {s : Int} {A : Option Addr} {k c : Nat} {hs : List (List Int)} {P : Option Addr} {q pc : Nat} {ns : List Nat} (h : MergeH w wr s A k c hs P q pc ns) : MergeH w wr.drew s A k c hs P q pc ns :=
  ⟨h.rg.drew, h.out.drew, own_at h.own fun _ _ _ => rfl, own_at h.parts fun _ _ _ => rfl, h.size, h.below.drew⟩
/-- Behind joined, and the store of what it returned. -/
theorem MergeH.step {w wr w2 : World} {s s' : Int} {A A' : Option Addr} {k k' c c' : Nat} {hs hs' : List (List Int)} {P : Option Addr} {q pc : Nat} {ns : List Nat} (h : MergeH w wr s A k c hs P q pc ns)
    (ho : w2.ownsRow (w.heap.size + 2) 31 32 (.slice A' k' c') k' (cellsL hs')) (hg : wr.grownBy w2 (Value.slice A k c).ownBlock) :
    Row w2 w.heap.size 24 #[.int .i64 s, .slice A k c] ∧ MergeH w ((w2.setCell ⟨w.heap.size, 0, none⟩ (.int .i64 s')).setCell ⟨w.heap.size, 1, none⟩ (.slice A' k' c')) s' A' k' c' hs' P q pc ns := by
  have hne : ∀ b, b < w.heap.size + 2 → some b ≠ (Value.slice A k c).ownBlock := fun b hb e => by have := h.own.lt b e.symm; omega
  have r0 := h.rg.grown hg (hne _ (by omega))
  have r1 := h.out.grown hg (hne _ (by omega))
  have hp := h.parts.kept hg (own_ne h.parts h.own (by decide))
  have hb : Below w.heap.size w w2 := h.below.grown hg (by have := h.size; omega) (fun b e => by have := h.own.lt b e; omega)
  have hh : ∀ b, w.heap.size + 2 ≤ b → b < w2.heap.size → ((w2.setCell ⟨w.heap.size, 0, none⟩ (.int .i64 s')).setCell ⟨w.heap.size, 1, none⟩ (.slice A' k' c')).heap[b]? = w2.heap[b]? := fun b hb _ =>
    (Below.heap_setCell _ _ _ b (by show b ≠ w.heap.size; omega)).trans (Below.heap_setCell _ _ _ b (by show b ≠ w.heap.size; omega))
  refine ⟨r0, (r0.put 0 _).put 1 _, (r1.far (by show w.heap.size + 1 ≠ w.heap.size; omega) _).far (by show w.heap.size + 1 ≠ w.heap.size; omega) _, own_at ho hh, own_at hp hh, ?_, (hb.setCell (Nat.le_refl _) _).setCell (Nat.le_refl _) _⟩
  have e := hg.size
  have := h.size
  simp [World.setCell]; omega
theorem MergeH.next {w wr w1 : World} {s : Int} {A : Option Addr} {k c : Nat} {hs : List (List Int)} {P : Option Addr} {q pc : Nat} {ns : List Nat} (h : MergeH w wr s A k c hs P q pc ns) (hb : Below wr.heap.size wr w1) : MergeH w w1 s A k c hs P q pc ns :=
  ⟨h.rg.next hb, h.out.next hb, own_below h.own hb, own_below h.parts hb, Nat.le_trans h.size hb.size, below_new h.below hb⟩
theorem MergeH.cut {w wr w1 : World} {s : Int} {A : Option Addr} {k c : Nat} {hs : List (List Int)} {P : Option Addr} {q pc : Nat} {ns : List Nat} (h : MergeH w wr s A k c hs none 0 0 []) (hq : q = ns.length) (ho : OwnI wr w1 (.slice P ns.length pc) ns) : MergeH w w1 s A k c hs P q pc ns := by
  subst hq
  have h1 := h.next ho.2
  exact ⟨h1.rg, h1.out, h1.own, own_base ho.1 h.size, h1.size, h1.below⟩
/-- The two blocks that a call of merged makes first. -/
def MergeB (w wr : World) (s : Int) (A : Option Addr) (n c : Nat) : Prop := Row wr w.heap.size 24 #[.int .i64 s, .slice A n c] ∧ Row wr (w.heap.size + 1) 24 #[.int .i64 0, .slice none 0 0] ∧ wr.heap.size = w.heap.size + 2 ∧ Below w.heap.size w wr
theorem MergeB.start (w : World) (s : Int) (A : Option Addr) (n c : Nat) : MergeB w ((w.alloc (.cells #[.int .i64 s, .slice A n c] 24)).alloc (.cells #[.int .i64 0, .slice none 0 0] 24)) s A n c :=
  ⟨(Row.made _ _ _).alloc _, Row.made2 _ _ _ _, by simp, ((Below.refl _ _).alloc (Nat.le_refl _) _).alloc (by simp) _⟩
theorem MergeB.clone {w wr w1 : World} {s : Int} {A A1 : Option Addr} {n c c1 : Nat} {hs : List (List Int)} (h : MergeB w wr s A n c) (ho : OwnL wr w1 (.slice A1 n c1) n hs) :
    Row w1 w.heap.size 24 #[.int .i64 s, .slice A n c] ∧ MergeH w (w1.setCell ⟨w.heap.size, 1, none⟩ (.slice A1 n c1)) s A1 n c1 hs none 0 0 [] := by
  obtain ⟨h0, h1, h2, h3⟩ := h
  have r0 := h0.next ho.2
  have r1 := h1.next ho.2
  have hb := below_new h3 ho.2
  refine ⟨r0, r0.put 1 _, r1.far (by show w.heap.size + 1 ≠ w.heap.size; omega) _, own_at (own_base ho.1 (by omega)) (fun b hb _ => Below.heap_setCell _ _ _ b (by show b ≠ w.heap.size; omega)), ⟨rfl, .inl ⟨rfl, rfl⟩⟩, ?_, hb.setCell (Nat.le_refl _) _⟩
  have := ho.2.size
  simp [World.setCell]; omega
theorem pushes_step (n : Nat) (ns : List Nat) (x : List Int) (xs : List (List Int)) (s : Nat) (hs : List (List Int)) : pushes (n :: ns) (x :: xs) s hs = pushes ns xs (s + n) (carry (s / n) hs x) := rfl
theorem drop_at {p : List (List Int)} {i : Nat} (h : i < p.length) : p.drop i = p.getD i [] :: p.drop (i + 1) := by
  rw [List.drop_eq_getElem_cons h, List.getD_eq_getElem?_getD, List.getElem?_eq_getElem h]; rfl
theorem ones_mul (s j : Nat) (h : s % 2 ^ j = 0) : ones s = ones (s / 2 ^ j) ∧ ones (s + 2 ^ j) = ones (s / 2 ^ j + 1) := by
  have e : s = s / 2 ^ j * 2 ^ j := by rw [Nat.mul_comm]; have := Nat.div_add_mod s (2 ^ j); omega
  constructor
  · conv => lhs; rw [e, ones_shift]
  · conv => lhs; rw [e, show s / 2 ^ j * 2 ^ j + 2 ^ j = (s / 2 ^ j + 1) * 2 ^ j by rw [Nat.add_mul, Nat.one_mul], ones_shift]
attribute [local go_sem ↓ high] read_at
set_option maxHeartbeats 8000000 in
theorem merged_any (w : World) (hT : Tab w) (s size : Nat) (hss : s ≤ size) (hsz : size ≤ 4096) (A : Option Addr) (c : Nat) (hs : List (List Int)) (hh : hashes hs) (hone : hs.length = ones s) (hA : HL w w.heap.size A hs)
    (PA : Option Addr) (pc : Nat) (p : List (List Int)) (hp : hashes p) (hP : HL w w.heap.size PA p) (hlen : p.length = (partsL s size).length) :
    Calls Tryd.prog 37 #[.agg #[.int .i64 (s : Int), .slice A hs.length c], .int .i64 (size : Int), .slice PA p.length pc] w fun e w' =>
      ∃ A' c', e = .returned (.agg #[.int .i64 (size : Int), .slice A' (pushes (partsL s size) p s hs).length c']) ∧ OwnL w w' (.slice A' (pushes (partsL s size) p s hs).length c') (pushes (partsL s size) p s hs).length (pushes (partsL s size) p s hs) := by
  obtain ⟨n, hn⟩ : ∃ n, Hid (n = hs.length) := ⟨_, Lib.hid rfl⟩
  obtain ⟨q, hq⟩ : ∃ q, Hid (q = p.length) := ⟨_, Lib.hid rfl⟩
  obtain ⟨ns, hns⟩ : ∃ ns, Hid (ns = partsL s size) := ⟨_, Lib.hid rfl⟩
  obtain ⟨R, hR⟩ : ∃ R, Hid (R = pushes (partsL s size) p s hs) := ⟨_, Lib.hid rfl⟩
  have hqn : Hid (q = ns.length) := Lib.hid (by rw [hq.out, hns.out]; exact hlen)
  have hq1 : q ≤ 4096 := by rw [hqn.out, hns.out]; have := partsL_length s size; omega
  have hn1 : Hid (n ≤ 8192) := Lib.hid (by rw [hn.out, hone]; have := ones_le 13 s (by omega); omega)
  have hR0 : Hid (n = ones s) := Lib.hid (by rw [hn.out]; exact hone)
  rw [← hn.out, ← hq.out, ← hR.out]
  have P1 : Hid (∀ W, Calls Tryd.prog 47 #[.int .i64 (s : Int), .int .i64 (size : Int)] W fun e w' => ∃ A c, e = .returned (.slice A q c) ∧ OwnI W w' (.slice A ns.length c) ns) := Lib.hid fun W => by
    refine (parts_own s size hss hsz W).mono ?_
    rintro e w' ⟨A, c, rfl, h⟩
    exact ⟨A, c, by rw [hqn.out, hns.out], by rw [hns.out]; exact h⟩
  have C1 : Hid (∀ W, Below w.heap.size w W → Calls Tryd.prog 59 #[.slice A n c] W fun e w' => ∃ A' c', e = .returned (.slice A' n c') ∧ OwnL W w' (.slice A' n c') n hs) := Lib.hid fun W hW => by
    have := clone_any hs hh (by rw [← hn.out]; exact hn1.out) A c W ((hA.next hW (Nat.le_refl _)).more hW.size)
    rw [← hn.out] at this
    refine this.mono ?_
    rintro e w' ⟨v, rfl, h⟩
    obtain ⟨A', c', rfl⟩ := own_form h.1
    exact ⟨A', c', rfl, h⟩
  have HP := Lib.hid hP
  have HPP := Lib.hid hp
  have HH := Lib.hid hh
  have HT := Lib.hid hT
  have HB := Lib.hid (MergeB.start w s A n c)
  clear hT hh hone hA hp hP hlen
  go_enter Tryd.func37, Tryd.ntmps37
  go_upto_region 1 with fail
  refine world_gen (fun wx => MergeB w wx s A n c) HB.out (fun wx HX => ?_)
  clear HB
  have HX := Lib.hid HX
  have HBX := Lib.hid HX.out.2.2.2
  have c0 := HX.out.1.cell 0
  have c1 := HX.out.1.cell 1
  go_upto_region 2 with (go_at_call 59; (with_reducible refine (C1.out _ HBX.out).mono ?_); rintro e w1 ⟨A1, c1', rfl, ho⟩; clear c0 c1; have HY := Lib.hid (HX.out.clone ho); clear ho; have c1 := HY.out.1.cell 1; have f1 := HY.out.1.free 1)
  refine world_gen (fun wx => MergeH w wx s A1 n c1' hs none 0 0 []) HY.out.2 (fun wy HZ => ?_)
  clear c1 f1 HY HX HBX
  have HZ := Lib.hid HZ
  have c0 := HZ.out.rg.cell 0
  go_wp2_with (go_at_call 47; (with_reducible refine (P1.out _).mono ?_); rintro e w2 ⟨P, pcc, rfl, ho⟩; have HM := Lib.hid (HZ.out.cut hqn.out ho); clear ho c0)
  clear P1 C1 HZ
  have HR1 : Hid (pushes (partsL s size) (p.drop 0) s hs = R) := Lib.hid (by rw [List.drop_zero, hR.out])
  go_loopw [18] (fun s18 wr => ∃ (i g k c2 : Nat) (A2 : Option Addr) (hs2 : List (List Int)), s18 = .int .i64 (i : Int) ∧ i ≤ q ∧ g ≤ size ∧ Hid (ns.drop i = partsL g size ∧ k = hs2.length ∧ k = ones g ∧ hashes hs2 ∧ pushes (partsL g size) (p.drop i) g hs2 = R) ∧ Hid (MergeH w wr (g : Int) A2 k c2 hs2 P q pcc ns)) (fun s18 _ => (q - intOf s18).toNat)
  case atStart => exact ⟨0, s, n, c1', A1, hs, rfl, by omega, hss, Lib.hid ⟨by rw [List.drop_zero, hns.out], hn.out, hR0.out, HH.out, HR1.out⟩, HM⟩
  case round =>
    clear HM HR1
    obtain ⟨i, g, k, c2, A2, hs2, rfl, hi, hg, HI, HM⟩ := hrel
    by_cases hlt : i < q
    · obtain ⟨hd, hk1, hk2, hh2, hr⟩ := HI.out
      have hgt : g < size := by
        by_cases h : g < size
        · exact h
        · rw [partsL_done g size (by omega)] at hd
          have := congrArg List.length hd
          rw [List.length_drop, ← hqn.out] at this
          simp at this; omega
      obtain ⟨j, ej, hj1, hj2, _⟩ := partN_exists g (size - g) (by omega)
      obtain ⟨z, hz⟩ : ∃ z, Hid (z = 2 ^ j) := ⟨_, Lib.hid rfl⟩
      rw [partsL_more g size hgt, ej, ← hz.out] at hd hr
      rw [← hz.out] at hj1 hj2
      obtain ⟨hi1, hi2, hi3⟩ := drop_one hd
      have hip : i < p.length := by rw [← hq.out]; exact hlt
      rw [drop_at hip, pushes_step] at hr
      obtain ⟨pa, rfl⟩ := (own_IL HM.out.parts hqn.out).some i hi1
      obtain ⟨pad, rfl⟩ := HP.out.some i hip
      obtain ⟨X, hX⟩ : ∃ X, Hid (X = nums .u8 (p.getD i [])) := ⟨_, Lib.hid rfl⟩
      have hxl := hashes_at HPP.out i hip
      have SX : Hid (∀ W, Below w.heap.size w W → (readAt (.pointer (some (pad.add (i * 32))))).run Tryd.prog W = .ok (.agg X) W) := Lib.hid fun W hW => by
        rw [hX.out]; exact (HP.out.next hW (Nat.le_refl _)).read HPP.out i hip
      have SZ : Hid (∀ W A c hs', MergeH w W (g : Int) A k c hs' (some pa) q pcc ns → W.cell? (pa.add i) = some (.int .i64 (z : Int))) := Lib.hid fun W A c hs' h => by
        rw [← hi2]; exact (own_IL h.parts hqn.out).at i hi1
      have hzp : 1 ≤ z := by rw [hz.out]; exact Nat.two_pow_pos j
      obtain ⟨S2, hS2⟩ : ∃ S2, Hid (S2 = carry (g / z) hs2 (p.getD i [])) := ⟨_, Lib.hid rfl⟩
      have J1 : Hid (∀ W, MergeH w W (g : Int) A2 k c2 hs2 (some pa) q pcc ns → Calls Tryd.prog 60 #[.agg #[.int .i64 (g : Int), .slice A2 k c2], .int .i64 (z : Int), .agg X] W fun e w' =>
          ∃ A' c', e = .returned (.agg #[.int .i64 ((g + z : Nat) : Int), .slice A' S2.length c']) ∧ w'.ownsRow (w.heap.size + 2) 31 32 (.slice A' S2.length c') S2.length (cellsL S2) ∧ W.grownBy w' (Value.slice A2 k c2).ownBlock) := Lib.hid fun W h => by
        rw [hX.out, hS2.out, hk1, hz.out]
        refine joined_any w W HT.out h.below (w.heap.size + 2) (by omega) h.size hs2 hh2 A2 c2 (by rw [← hk1]; exact h.own) g j (by rw [← hk1]; exact hk2) (by rw [← hz.out]; exact hj1) (by rw [← hz.out]; omega) _ hxl
      have HN : Hid (ns.drop (i + 1) = partsL (g + z) size ∧ S2.length = ones (g + z) ∧ hashes S2 ∧ pushes (partsL (g + z) size) (p.drop (i + 1)) (g + z) S2 = R) := Lib.hid
        ⟨hi3, by
          rw [hS2.out, hz.out]
          rw [hz.out] at hj1
          obtain ⟨o1, o2⟩ := ones_mul g j hj1
          rw [o2]
          exact carry_length _ _ _ (by rw [← hk1, ← o1]; exact hk2), by rw [hS2.out]; exact carry_hashes _ _ _ hh2 hxl, by rw [hS2.out]; exact hr⟩
      have hgz : g + z ≤ size := by omega
      clear HI hd hk1 hk2 hh2 hr ej hj1 hi1 hi2 hi3 hip hxl
      have c9 := SZ.out _ _ _ _ HM.out
      go_upto_region 5 with fail
      clear c9
      have HQ := Lib.hid HM.out.drew
      have c0 : wr.drew.cell? ⟨w.heap.size, 0, none⟩ = some (.int .i64 (g : Int)) := HQ.out.rg.cell 0
      have c1 : wr.drew.cell? ⟨w.heap.size, 1, none⟩ = some (.slice A2 k c2) := HQ.out.rg.cell 1
      have s1 := SX.out _ HQ.out.below
      go_region_with (go_at_call 60; (with_reducible refine (J1.out _ HQ.out).mono ?_); rintro e w3 ⟨A3, c3, rfl, ho, hgw⟩; have HY := Lib.hid (HQ.out.step (s' := (g : Int) + (z : Int)) ho hgw); clear ho hgw c0 c1 s1; have c0 := HY.out.1.cell 0; have c1 := HY.out.1.cell 1; have f0 := HY.out.1.free 0; have f1 := HY.out.1.free 1)
      all_goals
        go_wp2
        go_roundw
        case rel => exact ⟨i + 1, g + z, S2.length, c3, A3, S2, by go_num, by omega, hgz, Lib.hid ⟨HN.out.1, rfl, HN.out.2.1, HN.out.2.2.1, HN.out.2.2.2⟩, Lib.hid (by rw [Int.natCast_add]; exact HY.out.2)⟩
        case measure => simp [intOf]; omega
    · obtain ⟨hd, hk1, hk2, hh2, hr⟩ := HI.out
      rw [List.drop_of_length_le (by rw [← hqn.out]; omega)] at hd
      have hge : g = size := by
        by_cases h : g < size
        · rw [partsL_more g size h] at hd; cases hd
        · omega
      rw [← hd, pushes_nil] at hr
      subst hge
      subst hr
      have HK : Hid (k = hs2.length) := Lib.hid hk1
      have HH2 := Lib.hid hh2
      clear HI hd hk1 hk2 hh2
      have c0 := HM.out.rg.cell 0
      have c1 := HM.out.rg.cell 1
      have d0 := HM.out.out.cell 0
      have d1 := HM.out.out.cell 1
      have f0 := HM.out.out.free 0
      have f1 := HM.out.out.free 1
      go_wp2
      have HO := (HM.out.out.put 0 (.int .i64 (g : Int))).put 1 (.slice A2 k c2)
      have HB : Below w.heap.size wr ((wr.setCell ⟨w.heap.size + 1, 0, none⟩ (.int .i64 (g : Int))).setCell ⟨w.heap.size + 1, 1, none⟩ (.slice A2 k c2)) := ((Below.refl _ _).setCell (by show w.heap.size ≤ w.heap.size + 1; omega) _).setCell (by show w.heap.size ≤ w.heap.size + 1; omega) _
      have q0 := HO.cell 0
      have q1 := HO.cell 1
      refine bodyPost_ret (v := .agg #[.int .i64 (g : Int), .slice A2 k c2]) (by simp [results, Tryd.results37, go_sem, q0, q1]) rfl ⟨A2, c2, by rw [HK.out], ?_, HM.out.below.trans HB⟩
      rw [← HK.out]
      exact own_base (own_at (W := (wr.setCell ⟨w.heap.size + 1, 0, none⟩ (.int .i64 (g : Int))).setCell ⟨w.heap.size + 1, 1, none⟩ (.slice A2 k c2)) HM.out.own (fun b hb _ => (Below.heap_setCell _ _ _ b (by show b ≠ w.heap.size + 1; omega)).trans (Below.heap_setCell _ _ _ b (by show b ≠ w.heap.size + 1; omega)))) (by omega)
end Go.Proofs.YtfakimbneenfdaaDoor
