/-
  The walks of the document's Hash and Unhash (layer 3); what they make is new memory, nothing that was there changes.
-/
import Derived.Test.YtcafjmaimohljaaUnhash
import Derived.Laws.AppendOwn
import Derived.Laws.OwnMore
namespace Go.Proofs.Ytcafjmaimohljaa
open Go.RowKit
set_option linter.unusedVariables false

theorem infoU8 : (Try.prog.info? 5).map (fun i => (i.zero, i.size, i.bytes)) = some (some (.int .u8 0), 1, 1) := by kernel_rfl
def HashHead (w wr : World) (l : List Int) (k : Nat) (v : Value) : Prop :=
  wr.ownsRow (w.heap.size + 1) 5 1 v k ((l.map (Value.int .u8)).take k) ∧ Row wr w.heap.size 27 (nums .u8 l) ∧ Below w.heap.size w wr
theorem take_more (l : List Int) (k : Nat) (h : k < l.length) : l.take (k + 1) = l.take k ++ [l.getD k 0] := by
  rw [List.take_succ_eq_append_getElem h]
  simp [List.getD, List.getElem?_eq_getElem h]
theorem row_grown {w w' : World} {g : Nat} {t : TypeId} {cs : Array Value} {row : Option Nat} (h : Row w g t cs) (hb : w.grownBy w' row) (hg : some g ≠ row) : Row w' g t cs := (hb.block g h.lt hg).trans h
theorem HashHead.next {w wr w1 : World} {l : List Int} {k : Nat} {v v' : Value} (hk : k < l.length) (H : HashHead w wr l k v) (x : Value)
    (h1 : w1.ownsRow (w.heap.size + 1) 5 1 v' (k + 1) ((l.map (Value.int .u8)).take k ++ [.int .u8 (l.getD k 0)])) (hg : (wr.alloc (.cells #[x] 5)).grownBy w1 v.ownBlock) : HashHead w w1 l (k + 1) v' := by
  obtain ⟨h2, h3, h4⟩ := H
  have hge : ∀ g, v.ownBlock = some g → w.heap.size + 1 ≤ g := by
    rcases h2.2 with ⟨rfl, _⟩ | ⟨g', cap, cur, rfl, hb, _⟩
    · intro g hg; simp [Value.ownBlock] at hg
    · intro g hg
      have : g' = g := by simpa [Value.ownBlock] using hg
      omega
  refine ⟨?_, row_grown (h3.alloc _) hg (fun e => by have := hge _ e.symm; omega), (h4.alloc h4.size _).grown hg (by have := h4.size; simp; omega) (fun g e => by have := hge _ e; omega)⟩
  rw [← List.map_take, take_more l k hk, List.map_append, List.map_take]
  exact h1
theorem HashHead.text {w wr : World} {l : List Int} {v : Value} (hl : l.length = 32) (H : HashHead w wr l 32 v) :
    (convert 44 9 v).run Try.prog wr = .ok (.string (strOfNums l)) wr := by
  obtain ⟨h1, h2, h3⟩ := H
  obtain ⟨g, cap, rfl⟩ : ∃ g cap, v = .slice (some ⟨g, 0, none⟩) 32 cap := by
    rcases h1.2 with ⟨_, h0⟩ | ⟨g, cap, _, hv, _⟩
    · omega
    · exact ⟨g, cap, hv⟩
  refine run_convert_bytes_arg wr 44 5 Try.underlying44 Try.underlying5 g 0 32 cap l hl (fun i hi => ?_) 9 Try.underlying9
  have := h1.cells (g := g) rfl i (.int .u8 (l.getD i 0)) (by rw [List.take_of_length_le (by simp; omega)]; simp [List.getD, List.getElem?_eq_getElem (show i < l.length by omega)])
  rw [Nat.zero_add]
  have e : (⟨g, 0, none⟩ : Addr).add i = ⟨g, i, none⟩ := by unfold Addr.add; split <;> simp_all
  rwa [e] at this
set_option maxHeartbeats 1000000 in
set_option maxRecDepth 100000 in
theorem refHash_any (l : List Int) (hl : l.length = 32) (w : World) :
    Calls Try.prog 10 #[.agg (nums .u8 l)] w fun e w' => e = .returned (.string (strOfNums l)) ∧ Below w.heap.size w w' := by
  obtain ⟨i0, hi, hz0, hz1, hz2⟩ := info_parts infoU8
  have HL := Lib.hid hl
  have H0 : Hid (HashHead w (w.alloc (.cells (nums .u8 l) 27)) l 0 (.slice none 0 0)) := Lib.hid ⟨⟨rfl, .inl ⟨rfl, rfl⟩⟩, Row.made _ _ _, (Below.refl _ _).alloc (Nat.le_refl _) _⟩
  clear hl
  go_enter Try.func10, Try.ntmps10
  go_wp2
  go_loopw [3, 4] (fun s3 s4 wr => ∃ k v, s3 = v ∧ s4 = .int .i64 ((k : Nat) : Int) ∧ k ≤ 32 ∧ Hid (HashHead w wr l k v)) (fun _ s4 _ => (32 - intOf s4).toNat)
  case atStart => exact ⟨0, _, rfl, rfl, by omega, H0⟩
  case round =>
    clear H0
    obtain ⟨k, v, rfl, rfl, hk, HH⟩ := hrel
    by_cases hlt : k < 32
    · have hc := HH.out.2.1.num (i := k) (by rw [HL.out]; exact hlt)
      obtain ⟨x, hx⟩ : ∃ x, Hid (x = l.getD k 0) := ⟨_, Lib.hid rfl⟩
      rw [← hx.out] at hc
      go_wp2_with (at_builtin; refine wpList_append_own _ rfl (.tmp 9) (.tmp 13) 44 rfl (w.heap.size + 1) 5 i0 (.int .u8 0) 1 1 Try.underlying44 hi hz0 hz1 hz2 rfl (by decide) _ _ _ rfl (HH.out.1.alloc _) ⟨wr.heap.size, 0, none⟩ 1 1 [.int .u8 x] rfl rfl ?c1 ?c2 (by unfold maxLen; omega) (by omega) ?c5 ?_)
      case c1 => intro j u hj; match j, hj with | 0, hj => simp at hj; subst hj; simp [World.cell?_alloc_new, Addr.add]
      case c2 => intro u hu; simp at hu; subst hu; rfl
      case c5 => have := HH.out.2.2.size; have := HH.out.2.1.lt; simp; omega
      intro v' w1 hown hgrow _
      have HN : Hid (HashHead w w1 l (k + 1) v') := Lib.hid (HH.out.next (by rw [HL.out]; exact hlt) _ (by rw [← hx.out]; exact hown) hgrow)
      clear hown hgrow HH
      go_wp2
      go_roundw
      case rel => exact ⟨k + 1, _, rfl, by go_num, by omega, HN⟩
      case measure => simp [intOf]; omega
    · obtain rfl : k = 32 := by omega
      have ht := HH.out.text HL.out
      go_wp2
      go_ret
      exact ⟨rfl, HH.out.2.2⟩
/-- What holds at the head of the rounds of the document's Unhash. -/
def UnhHead (w wr : World) (s : ByteArray) (k : Nat) : Prop :=
  Row wr w.heap.size 27 (nums .u8 (List.replicate 32 0)) ∧ Row wr (w.heap.size + 1) 27 (nums .u8 ((textL s).take k ++ List.replicate (32 - k) 0)) ∧ Below w.heap.size w wr
theorem UnhHead.start (w : World) (s : ByteArray) : UnhHead w ((w.alloc (.cells (nums .u8 (List.replicate 32 0)) 27)).alloc (.cells (nums .u8 (List.replicate 32 0)) 27)) s 0 :=
  ⟨(Row.made _ _ _).alloc _, Row.made2 _ _ _ _, ((Below.refl _ _).alloc (Nat.le_refl _) _).alloc (by simp) _⟩
theorem UnhHead.next {w wr : World} {s : ByteArray} {k : Nat} (H : UnhHead w wr s k) (hk : k < 32) (hs : k < s.size) : UnhHead w (wr.setCell ⟨w.heap.size + 1, k, none⟩ (.int .u8 ((s[k].toNat : Nat) : Int))) s (k + 1) := by
  refine ⟨H.1.far (by simp) _, ?_, H.2.2.setCell (by simp) _⟩
  have h := H.2.1.numPut k ((s[k].toNat : Nat) : Int)
  have hl : ((textL s).take k).length = k := by rw [List.length_take, textL_length]; omega
  have e : ((textL s).take k ++ List.replicate (32 - k) 0).set k ((s[k].toNat : Nat) : Int) = (textL s).take (k + 1) ++ List.replicate (32 - (k + 1)) 0 := by
    rw [show 32 - k = (32 - (k + 1)) + 1 by omega, List.replicate_succ, List.set_append_right _ _ (by omega), hl, Nat.sub_self, List.set_cons_zero, take_more (textL s) k (by rw [textL_length]; exact hs), textL_getD s k hs]
    simp
  rwa [e] at h
attribute [local go_sem ↓ high] read_at write_at
set_option maxHeartbeats 1000000 in
set_option maxRecDepth 100000 in
theorem refUnhash_any (s : ByteArray) (hs : s.size ≤ maxLen) (w : World) :
    Calls Try.prog 22 #[.string s] w fun e w' => e = .returned (unhV s) ∧ Below w.heap.size w w' := by
  unfold maxLen at hs
  have H0 := Lib.hid (UnhHead.start w s)
  have h6 : Hid ((Try.prog.info? 27).map (·.size) = some (nums .u8 (List.replicate 32 0)).size) := Lib.hid (by kernel_rfl)
  have h3 := nums_one .u8 (List.replicate 32 0)
  go_enter Try.func22, Try.ntmps22
  go_upto_region 1 with fail
  go_cut [2, 3, 4, 5] (fun s2 s3 s4 s5 wx => s2 = .pointer (some ⟨w.heap.size, 0, none⟩) ∧ s3 = .string ⟨#[]⟩ ∧ s4 = .bool false ∧ s5 = .pointer (some ⟨w.heap.size + 1, 0, none⟩) ∧ Hid (UnhHead w wx s 0))
  case first =>
    go_wp2_with fail
    go_meet
    exact ⟨rfl, rfl, rfl, rfl, H0⟩
  case rest =>
  obtain ⟨rfl, rfl, rfl, rfl, HH⟩ := hcut
  clear H0
  by_cases hlt : s.size < 32
  · have hV := Lib.hid (unhV_no s hlt)
    have hd : decide ((s.size : Int) < 32) = true := decide_eq_true (by omega)
    have h1 := HH.out.1
    have h2 : Row wc (w.heap.size + 1) 27 (nums .u8 (List.replicate 32 0)) := by have := HH.out.2.1; simpa using this
    have HB := Lib.hid HH.out.2.2
    clear HH
    go_wp2_with (first
      | (refine wpList_load_row rfl 27 _ rfl (w.heap.size + 1) rfl 27 _ (0, 0) _ h2 Try.underlying27 rfl h6.out ?_)
      | (refine wpList_store_row rfl 27 _ _ rfl w.heap.size (nums .u8 (List.replicate 32 0)) rfl rfl 27 _ h1 h6.out rfl h3 ?_))
    refine bodyPost_ret (results_row3 (p := 2) (u := 3) (v := 4) rfl _ _ w.heap.size 27 _ (0, 0) _ rfl (h1.whole _) Try.underlying27 rfl h6.out) rfl ⟨ret_unh hV.out, below_setRow HB.out (Nat.le_refl _)⟩
  · have hV := Lib.hid (unhV_yes s hlt)
    have hd : decide ((s.size : Int) < 32) = false := decide_eq_false (by omega)
    have h32 : 32 ≤ s.size := by omega
    clear hlt
    go_wp2
    go_loopw [6] (fun s6 wr => ∃ k : Nat, k ≤ 32 ∧ s6 = .int .i64 ((k : Nat) : Int) ∧ Hid (UnhHead w wr s k)) (fun s6 _ => (32 - intOf s6).toNat)
    case atStart => exact ⟨0, by omega, rfl, HH⟩
    case round =>
      clear HH
      obtain ⟨k, hk, rfl, HH⟩ := hrel
      by_cases hlt : k < 32
      · have hks : k < s.size := by omega
        have hc := HH.out.2.1.num (i := k) (by rw [List.length_append, List.length_take, textL_length]; simp; omega)
        have hf := HH.out.2.1.free k
        go_wp2
        go_roundw
        case rel => exact ⟨k + 1, by omega, by go_num, Lib.hid (HH.out.next hlt hks)⟩
        case measure => simp [intOf]; omega
      · have hk9 : Hid (k = 32) := Lib.hid (by omega)
        obtain ⟨C, hC⟩ : ∃ C, Hid (C = nums .u8 ((textL s).take 32)) := ⟨_, Lib.hid rfl⟩
        have zC : Hid (C.size = 32) := Lib.hid (by rw [hC.out, nums_size, List.length_take, textL_length]; omega)
        have oC : Hid (C.all (·.oneCell') = true) := Lib.hid (by rw [hC.out]; exact nums_one _ _)
        have h2 : Hid (Row wr (w.heap.size + 1) 27 C) := Lib.hid (by
          have h := HH.out.2.1
          rw [hk9.out] at h
          rw [hC.out]
          simpa using h)
        have zZ : Hid ((nums .u8 (List.replicate 32 0)).size = 32) := Lib.hid (by rw [nums_size]; simp)
        rw [← hC.out] at hV
        have s1 := h2.out.drew.read zC.out
        have s2 := HH.out.1.drew.write zZ.out zC.out oC.out
        go_wp2_with fail
        go_region
        all_goals
          go_wp2
          refine bodyPost_ret (results_row3 (p := 2) (u := 3) (v := 4) rfl _ _ w.heap.size 27 _ (0, 0) _ rfl (HH.out.1.drew.whole _) Try.underlying27 rfl (sizeN _ zC.out)) rfl ⟨ret_unh hV.out, below_setRow HH.out.2.2.drew (Nat.le_refl _)⟩
end Go.Proofs.Ytcafjmaimohljaa
