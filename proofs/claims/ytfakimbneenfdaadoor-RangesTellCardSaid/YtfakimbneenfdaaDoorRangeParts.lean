/-
  The walk of parts (layer 5): how the leaves from one number up to another one are parted; what it makes is new memory, nothing that was there changes.
-/
import Derived.Test.YtfakimbneenfdaaDoorRangeValid
namespace Go.Proofs.YtfakimbneenfdaaDoor
open Go.RowKit
set_option linter.unusedVariables false
set_option maxRecDepth 100000

/-- The address A leads to the numbers ns, one behind the other, below block B. -/
def IL (w : World) (B : Nat) (A : Option Addr) (ns : List Nat) : Prop :=
  ∀ i, i < ns.length → ∃ ad, A = some ad ∧ ad.block < B ∧ w.cell? (ad.add i) = some (.int .i64 (ns.getD i 0 : Nat))
theorem IL.next {w w' : World} {B B' : Nat} {A : Option Addr} {ns : List Nat} (h : IL w B A ns) (hb : Below B' w w') (hB : B ≤ B') : IL w' B A ns := fun i hi => by
  obtain ⟨ad, e, hlt, hc⟩ := h i hi
  exact ⟨ad, e, hlt, (hb.cell (p := ad.add i) (by rw [block_of_add]; omega)).trans hc⟩
theorem IL.more {w : World} {B B' : Nat} {A : Option Addr} {ns : List Nat} (h : IL w B A ns) (hB : B ≤ B') : IL w B' A ns := fun i hi => by
  obtain ⟨ad, e, hlt, hc⟩ := h i hi
  exact ⟨ad, e, by omega, hc⟩
theorem IL.some {w : World} {B : Nat} {A : Option Addr} {ns : List Nat} (h : IL w B A ns) (i : Nat) (hi : i < ns.length) : ∃ ad, A = some ad := by
  obtain ⟨ad, e, _⟩ := h i hi
  exact ⟨ad, e⟩
/-- A slice of the call's own: numbers. -/
def numsI (ns : List Nat) : List Value := ns.map fun (n : Nat) => Value.int .i64 (n : Int)
theorem numsI_snoc (ns : List Nat) (n : Nat) : numsI (ns ++ [n]) = numsI ns ++ [.int .i64 (n : Int)] := by simp [numsI]
theorem numsI_get (ns : List Nat) (i : Nat) (h : i < ns.length) : (numsI ns)[i]? = some (.int .i64 (ns.getD i 0 : Nat)) := by
  simp [numsI, List.getD, List.getElem?_eq_getElem h]
def OwnI (w wr : World) (v : Value) (ns : List Nat) : Prop := wr.ownsRow w.heap.size 3 1 v ns.length (numsI ns) ∧ Below w.heap.size w wr
theorem OwnI.start (w : World) : OwnI w w (.slice none 0 0) [] := ⟨⟨rfl, .inl ⟨rfl, rfl⟩⟩, Below.refl _ _⟩
theorem OwnI.lead {w wr : World} {v : Value} {ns : List Nat} (h : OwnI w wr v ns) : ∃ A c, v = .slice A ns.length c ∧ ns.length ≤ c ∧ c ≤ maxLen ∧ IL wr wr.heap.size A ns := by
  obtain ⟨h1, h2⟩ := h
  rcases h1.2 with ⟨rfl, h0⟩ | ⟨g, cap, cur, rfl, _, hg, h3⟩
  · have : ns = [] := List.eq_nil_of_length_eq_zero h0
    subst this
    exact ⟨none, 0, rfl, Nat.le_refl _, by decide, fun i hi => by simp at hi⟩
  · exact ⟨_, _, rfl, h3.1, h3.2.1, fun i hi => ⟨_, rfl, (Array.getElem?_eq_some_iff.1 hg).1, h1.cells (g := g) rfl _ _ (numsI_get ns i hi)⟩⟩
theorem OwnI.drew {w wr : World} {v : Value} {ns : List Nat} (h : OwnI w wr v ns) : OwnI w wr.drew v ns := ⟨h.1, h.2.drew⟩
theorem OwnI.put {w wr w1 : World} {v v' : Value} {ns : List Nat} {n : Nat} {C : Array Value} {t : TypeId} (h : OwnI w wr v ns)
    (h1 : w1.ownsRow w.heap.size 3 1 v' (ns.length + 1) (numsI ns ++ [.int .i64 (n : Int)])) (hg : (wr.alloc (.cells C t)).grownBy w1 v.ownBlock) : OwnI w w1 v' (ns ++ [n]) := by
  refine ⟨by rw [numsI_snoc, List.length_append]; exact h1, ?_⟩
  refine (h.2.alloc h.2.size _).grown hg (by have := h.2.size; simp; omega) (fun g e => ?_)
  rcases h.1.2 with ⟨rfl, _⟩ | ⟨g', cap, cur, rfl, hb', _⟩
  · simp [Value.ownBlock] at e
  · have : g' = g := by simpa [Value.ownBlock] using e
    omega
theorem infoInt : (Tryd.prog.info? 3).map (fun i => (i.zero, i.size, i.bytes)) = some (some (.int .i64 0), 1, 8) := by kernel_rfl
theorem half_of (f m : Nat) : (f : Int) % (2 * (m : Int)) = ((f % (2 * m) : Nat) : Int) := by simp
theorem part_stop {f r m : Nat} (h : ∃ j, m = 2 ^ j ∧ f % 2 ^ j = 0) (h1 : m ≤ r) (h2 : ¬ (f % (2 * m) = 0 ∧ 2 * m ≤ r)) : m = partN f r := by
  obtain ⟨j, rfl, hj⟩ := h
  exact (partN_is f r j ⟨hj, h1, by rw [Nat.pow_succ, Nat.mul_comm]; exact h2⟩).symm
theorem part_next {f m : Nat} (h : ∃ j, m = 2 ^ j ∧ f % 2 ^ j = 0) (h1 : f % (2 * m) = 0) : ∃ j, 2 * m = 2 ^ j ∧ f % 2 ^ j = 0 := by
  obtain ⟨j, rfl, hj⟩ := h
  have e : 2 * 2 ^ j = 2 ^ (j + 1) := by rw [Nat.pow_succ]; omega
  exact ⟨j + 1, e, by rw [← e]; exact h1⟩
set_option maxHeartbeats 4000000 in
theorem parts_own (f t : Nat) (hf : f ≤ t) (ht : t ≤ 4096) (w : World) :
    Calls Tryd.prog 47 #[.int .i64 (f : Int), .int .i64 (t : Int)] w fun e w' => ∃ A c, e = .returned (.slice A (partsL f t).length c) ∧ OwnI w w' (.slice A (partsL f t).length c) (partsL f t) := by
  obtain ⟨i0, hi, hz0, hz1, hz2⟩ := info_parts infoInt
  have H0 := Lib.hid (OwnI.start w)
  have hlen : Hid ((partsL f t).length ≤ 4096) := Lib.hid (by have := partsL_length f t; omega)
  go_enter Tryd.func47, Tryd.ntmps47
  go_wp2
  go_loopw [0, 5] (fun s0 s5 wr => ∃ (g : Nat) (v : Value) (ns : List Nat), s0 = .int .i64 (g : Int) ∧ v = s5 ∧ g ≤ t ∧ Hid (OwnI w wr v ns) ∧ Hid (ns ++ partsL g t = partsL f t)) (fun s0 _ _ => (t - intOf s0).toNat)
  case atStart => exact ⟨f, _, [], rfl, rfl, hf, H0, Lib.hid rfl⟩
  case round =>
    clear H0 hf
    obtain ⟨g, v, ns, rfl, rfl, hg, HO, HP⟩ := hrel
    obtain ⟨wo, rfl⟩ : ∃ wo : World, wo = wr := ⟨_, rfl⟩
    by_cases hlt : g < t
    · go_wp2
      go_loop [6] (fun s6 => ∃ m : Nat, s6 = .int .i64 (m : Int) ∧ m ≤ t - g ∧ 1 ≤ m ∧ Hid (∃ j, m = 2 ^ j ∧ g % 2 ^ j = 0)) (fun s6 => (t - g) - (intOf s6).toNat)
      case atStart => exact ⟨1, rfl, by omega, by omega, Lib.hid ⟨0, rfl, by simp [Nat.mod_one]⟩⟩
      case round =>
        obtain ⟨m, rfl, hm, hm1, HM⟩ := hrel
        by_cases ha : g % (2 * m) = 0
        · by_cases hb : 2 * m ≤ t - g
          · have HN := Lib.hid (part_next HM.out ha)
            have d1 : ((g : Int) % (2 * (m : Int)) == 0) = true := by rw [half_of, ha]; rfl
            have d2 : decide (2 * (m : Int) ≤ (t : Int) - (g : Int)) = true := by simp; omega
            clear ha
            go_wp2
            go_round
            case rel => exact ⟨2 * m, by go_num, by omega, by omega, HN⟩
            case measure => simp [intOf]; omega
          · have HN := Lib.hid (part_stop HM.out hm (by omega))
            have d1 : ((g : Int) % (2 * (m : Int)) == 0) = true := by rw [half_of, ha]; rfl
            have d2 : decide (2 * (m : Int) ≤ (t : Int) - (g : Int)) = false := by simp; omega
            clear ha
            have HQ : Hid (ns.length + 1 ≤ 8192) := Lib.hid (by have := congrArg List.length HP.out; rw [List.length_append] at this; have := hlen.out; omega)
            have HR : Hid ((ns ++ [partN g (t - g)]) ++ partsL (g + partN g (t - g)) t = partsL f t) := Lib.hid (by rw [← HP.out, partsL_more g t hlt, List.append_assoc]; rfl)
            rw [← HN.out] at HR
            clear HN HP
            go_wp2_with (at_builtin; refine wpList_append_own _ rfl (.tmp 25) (.tmp 27) 69 rfl w.heap.size 3 i0 _ 1 8 Tryd.underlying69 hi hz0 hz1 hz2 rfl (by decide) _ _ _ rfl (HO.out.1.alloc _) ⟨wo.heap.size, 0, none⟩ 1 1 [.int .i64 (m : Int)] rfl rfl ?c1a ?c1b (by have := HQ.out; unfold maxLen; omega) (by have := HQ.out; omega) ?c1c ?_)
            case c1b => first | rfl | simp
            case c1c => have := HO.out.2.size; simp; omega
            intro v' w4 hown hgrow _
            have HO2 : Hid (OwnI w w4 v' (ns ++ [m])) := Lib.hid (HO.out.put hown hgrow)
            clear hown hgrow HO
            go_wp2
            go_roundw
            case rel => exact ⟨g + m, _, _, by go_num, rfl, by omega, HO2, HR⟩
            case measure => simp [intOf]; omega
        · have HN := Lib.hid (part_stop HM.out hm (by omega))
          have d1 : ((g : Int) % (2 * (m : Int)) == 0) = false := by rw [half_of, beq_eq_false_iff_ne]; exact fun h => ha (Int.ofNat.inj h)
          clear ha
          have HQ : Hid (ns.length + 1 ≤ 8192) := Lib.hid (by have := congrArg List.length HP.out; rw [List.length_append] at this; have := hlen.out; omega)
          have HR : Hid ((ns ++ [partN g (t - g)]) ++ partsL (g + partN g (t - g)) t = partsL f t) := Lib.hid (by rw [← HP.out, partsL_more g t hlt, List.append_assoc]; rfl)
          rw [← HN.out] at HR
          clear HN HP
          go_wp2_with (at_builtin; refine wpList_append_own _ rfl (.tmp 25) (.tmp 27) 69 rfl w.heap.size 3 i0 _ 1 8 Tryd.underlying69 hi hz0 hz1 hz2 rfl (by decide) _ _ _ rfl (HO.out.1.alloc _) ⟨wo.heap.size, 0, none⟩ 1 1 [.int .i64 (m : Int)] rfl rfl ?c2a ?c2b (by have := HQ.out; unfold maxLen; omega) (by have := HQ.out; omega) ?c2c ?_)
          case c2b => first | rfl | simp
          case c2c => have := HO.out.2.size; simp; omega
          intro v' w4 hown hgrow _
          have HO2 : Hid (OwnI w w4 v' (ns ++ [m])) := Lib.hid (HO.out.put hown hgrow)
          clear hown hgrow HO
          go_wp2
          go_roundw
          case rel => exact ⟨g + m, _, _, by go_num, rfl, by omega, HO2, HR⟩
          case measure => simp [intOf]; omega
    · have hge : Hid (partsL g t = []) := Lib.hid (partsL_done g t (by omega))
      obtain ⟨A, c, hv, hI⟩ : ∃ A c, Hid (v = .slice A (partsL f t).length c) ∧ Hid (OwnI w wo (.slice A (partsL f t).length c) (partsL f t)) := by
        have e : ns = partsL f t := by have := HP.out; rw [hge.out, List.append_nil] at this; exact this
        subst e
        obtain ⟨A, c, e1, _⟩ := HO.out.lead
        exact ⟨A, c, Lib.hid e1, Lib.hid (by rw [← e1]; exact HO.out)⟩
      go_wp2
      go_ret
      exact ⟨A, c, congrArg Ending.returned hv.out, hI.out⟩
theorem parts_any (f t : Nat) (hf : f ≤ t) (ht : t ≤ 4096) (w : World) :
    Calls Tryd.prog 47 #[.int .i64 (f : Int), .int .i64 (t : Int)] w fun e w' => (∃ A c, e = .returned (.slice A (partsL f t).length c) ∧ (partsL f t).length ≤ c ∧ c ≤ maxLen ∧ IL w' w'.heap.size A (partsL f t)) ∧ Below w.heap.size w w' := by
  refine (parts_own f t hf ht w).mono ?_
  rintro e w' ⟨A, c, rfl, h⟩
  obtain ⟨A', c', e1, e2, e3, e4⟩ := h.lead
  cases e1
  exact ⟨⟨_, _, rfl, e2, e3, e4⟩, h.2⟩
end Go.Proofs.YtfakimbneenfdaaDoor
