/-
  The walk of the document's Hash (layer 3); what they make is new memory, nothing that was there changes.
-/
import Derived.Test.YtkjgkeigfebcmaaDoorTreeNode
import Derived.Test.YtkjgkeigfebcmaaDoorTreeSplit
namespace Go.Proofs.YtkjgkeigfebcmaaDoor
open Go.RowKit
set_option linter.unusedVariables false
set_option maxRecDepth 100000

theorem infoU8 : (Tryd.prog.info? 5).map (fun i => (i.zero, i.size, i.bytes)) = some (some (.int .u8 0), 1, 1) := by kernel_rfl
def HashHead (w wr : World) (l : List Int) (k : Nat) (v : Value) : Prop :=
  wr.ownsRow (w.heap.size + 1) 5 1 v k ((l.map (Value.int .u8)).take k) ∧ Row wr w.heap.size 30 (nums .u8 l) ∧ Below w.heap.size w wr
theorem take_more (l : List Int) (k : Nat) (h : k < l.length) : l.take (k + 1) = l.take k ++ [l.getD k 0] := by
  rw [List.take_succ_eq_append_getElem h]
  simp [List.getD, List.getElem?_eq_getElem h]
theorem row_grown {w w' : World} {g : Nat} {t : TypeId} {cs : Array Value} {row : Option Nat} (h : Row w g t cs) (hb : w.grownBy w' row) (hg : some g ≠ row) : Row w' g t cs := (hb.block g h.lt hg).trans h
theorem HashHead.next {w wr w1 : World} {l : List Int} {k : Nat} {v v' : Value} (hk : k < l.length) (H : HashHead w wr l k v) (x : Value)
    (h1 : w1.ownsRow (w.heap.size + 1) 5 1 v' (k + 1) ((l.map (Value.int .u8)).take k ++ [.int .u8 (l.getD k 0)])) (hg : (wr.alloc (.cells #[x] 5)).grownBy w1 v.ownBlock) : HashHead w w1 l (k + 1) v' := by
  obtain ⟨h2, h3, h4⟩ := H
  have hge : ∀ g, v.ownBlock = some g → w.heap.size + 1 ≤ g := by
    rcases h2.2 with ⟨rfl, _⟩ | ⟨g', cap, cur, rfl, hb, _⟩
    · intro g hg; simp [Value.ownBlock] at hg
    · intro g hg
      have : g' = g := by simpa [Value.ownBlock] using hg
      omega
  refine ⟨?_, row_grown (h3.alloc _) hg (fun e => by have := hge _ e.symm; omega), (h4.alloc h4.size _).grown hg (by have := h4.size; simp; omega) (fun g e => by have := hge _ e; omega)⟩
  rw [← List.map_take, take_more l k hk, List.map_append, List.map_take]
  exact h1
theorem HashHead.text {w wr : World} {l : List Int} {v : Value} (hl : l.length = 32) (H : HashHead w wr l 32 v) :
    (convert 54 9 v).run Tryd.prog wr = .ok (.string (strOfNums l)) wr := by
  obtain ⟨h1, h2, h3⟩ := H
  obtain ⟨g, cap, rfl⟩ : ∃ g cap, v = .slice (some ⟨g, 0, none⟩) 32 cap := by
    rcases h1.2 with ⟨_, h0⟩ | ⟨g, cap, _, hv, _⟩
    · omega
    · exact ⟨g, cap, hv⟩
  refine run_convert_bytes_arg wr 54 5 Tryd.underlying54 Tryd.underlying5 g 0 32 cap l hl (fun i hi => ?_) 9 Tryd.underlying9
  have := h1.cells (g := g) rfl i (.int .u8 (l.getD i 0)) (by rw [List.take_of_length_le (by simp; omega)]; simp [List.getD, List.getElem?_eq_getElem (show i < l.length by omega)])
  rw [Nat.zero_add]
  have e : (⟨g, 0, none⟩ : Addr).add i = ⟨g, i, none⟩ := by unfold Addr.add; split <;> simp_all
  rwa [e] at this
set_option maxHeartbeats 1000000 in
set_option maxRecDepth 100000 in
theorem refHash_any (l : List Int) (hl : l.length = 32) (w : World) :
    Calls Tryd.prog 37 #[.agg (nums .u8 l)] w fun e w' => e = .returned (.string (strOfNums l)) ∧ Below w.heap.size w w' := by
  obtain ⟨i0, hi, hz0, hz1, hz2⟩ := info_parts infoU8
  have HL := Lib.hid hl
  have H0 : Hid (HashHead w (w.alloc (.cells (nums .u8 l) 30)) l 0 (.slice none 0 0)) := Lib.hid ⟨⟨rfl, .inl ⟨rfl, rfl⟩⟩, Row.made _ _ _, (Below.refl _ _).alloc (Nat.le_refl _) _⟩
  clear hl
  go_enter Tryd.func37, Tryd.ntmps37
  go_wp2
  go_loopw [3, 4] (fun s3 s4 wr => ∃ k v, s3 = v ∧ s4 = .int .i64 ((k : Nat) : Int) ∧ k ≤ 32 ∧ Hid (HashHead w wr l k v)) (fun _ s4 _ => (32 - intOf s4).toNat)
  case atStart => exact ⟨0, _, rfl, rfl, by omega, H0⟩
  case round =>
    clear H0
    obtain ⟨k, v, rfl, rfl, hk, HH⟩ := hrel
    by_cases hlt : k < 32
    · have hc := HH.out.2.1.num (i := k) (by rw [HL.out]; exact hlt)
      obtain ⟨x, hx⟩ : ∃ x, Hid (x = l.getD k 0) := ⟨_, Lib.hid rfl⟩
      rw [← hx.out] at hc
      go_wp2_with (at_builtin; refine wpList_append_own _ rfl (.tmp 9) (.tmp 13) 54 rfl (w.heap.size + 1) 5 i0 (.int .u8 0) 1 1 Tryd.underlying54 hi hz0 hz1 hz2 rfl (by decide) _ _ _ rfl (HH.out.1.alloc _) ⟨wr.heap.size, 0, none⟩ 1 1 [.int .u8 x] rfl rfl ?c1 ?c2 (by unfold maxLen; omega) (by omega) ?c5 ?_)
      case c1 => intro j u hj; match j, hj with | 0, hj => simp at hj; subst hj; simp [World.cell?_alloc_new, Addr.add]
      case c2 => intro u hu; simp at hu; subst hu; rfl
      case c5 => have := HH.out.2.2.size; have := HH.out.2.1.lt; simp; omega
      intro v' w1 hown hgrow _
      have HN : Hid (HashHead w w1 l (k + 1) v') := Lib.hid (HH.out.next (by rw [HL.out]; exact hlt) _ (by rw [← hx.out]; exact hown) hgrow)
      clear hown hgrow HH
      go_wp2
      go_roundw
      case rel => exact ⟨k + 1, _, rfl, by go_num, by omega, HN⟩
      case measure => simp [intOf]; omega
    · obtain rfl : k = 32 := by omega
      have ht := HH.out.text HL.out
      go_wp2
      go_ret
      exact ⟨rfl, HH.out.2.2⟩
end Go.Proofs.YtkjgkeigfebcmaaDoor
