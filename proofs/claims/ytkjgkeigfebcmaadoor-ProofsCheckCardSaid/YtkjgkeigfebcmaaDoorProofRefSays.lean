/-
  The walk of the document's says (layer 7), that calls itself: the two roots that a proof says. Condition: a list of hashes in memory. What it makes is new memory; nothing that was there changes.
-/
import Derived.Test.YtkjgkeigfebcmaaDoorProofSays
import Derived.Test.YtkjgkeigfebcmaaDoorTreeRefNode
namespace Go.Proofs.YtkjgkeigfebcmaaDoor
open Go.RowKit Go.Great
set_option linter.unusedVariables false
set_option maxRecDepth 100000

theorem results_cells_tmp {fn : Func} {p p2 u : Tmp} {ty : TypeId} (h : fn.results = #[.cell p ty, .cell p2 ty, .tmp u]) (tmps : Array Value) (P : Program) (w : World) :
    (results fn tmps).run P w = ((asAddr (tmps.getD p undef)).run P w).andThen fun a w1 => ((loadVar ty a).run P w1).andThen fun v w2 => ((asAddr (tmps.getD p2 undef)).run P w2).andThen fun a2 w3 => ((loadVar ty a2).run P w3).andThen fun v2 w4 => .ok (.tuple #[v, v2, tmps.getD u undef]) w4 := by
  simp only [results, h]
  simp [Sem.run_bind, Result.andThen]
theorem results_row3 {P : Program} {fn : Func} {p p2 u : Tmp} {ty : TypeId} (h : fn.results = #[.cell p ty, .cell p2 ty, .tmp u]) (tmps : Array Value) (w : World) (g g2 : Nat) (t : TypeId) (cs cs2 : Array Value) (d : TypeDesc)
    (hp : tmps.getD p undef = .pointer (some ⟨g, 0, none⟩)) (hp2 : tmps.getD p2 undef = .pointer (some ⟨g2, 0, none⟩)) (hg : Row w g t cs) (hg2 : Row w g2 t cs2)
    (hu : P.underlying ty = some d) (hd : (match d with | .struct _ | .array _ _ => true | _ => false) = true) (hi : (P.info? ty).map (·.size) = some cs.size) (hi2 : (P.info? ty).map (·.size) = some cs2.size) (v : Value) (hv : tmps.getD u undef = v) :
    (results fn tmps).run P w = .ok (.tuple #[.agg cs, .agg cs2, v]) w := by
  rw [results_cells_tmp h, hp, hp2, hv]
  simp [asAddr, Result.andThen, run_loadVar_row w g t ty cs (0, 0) d hg hu hd hi, run_loadVar_row w g2 t ty cs2 (0, 0) d hg2 hu hd hi2]
/-- Two hashes into blocks that are made for them. -/
theorem made_two (w1 : World) (L M : Array Value) (hL : L.size = 32) (oL : L.all (·.oneCell') = true) (hM : M.size = 32) (oM : M.all (·.oneCell') = true) : ∃ w2 w3, (writeAt (.pointer (some ⟨w1.heap.size, 0, none⟩)) (.agg L)).run Tryd.prog ((w1.alloc (.cells #[.int .u8 0, .int .u8 0, .int .u8 0, .int .u8 0, .int .u8 0, .int .u8 0, .int .u8 0, .int .u8 0, .int .u8 0, .int .u8 0, .int .u8 0, .int .u8 0, .int .u8 0, .int .u8 0, .int .u8 0, .int .u8 0, .int .u8 0, .int .u8 0, .int .u8 0, .int .u8 0, .int .u8 0, .int .u8 0, .int .u8 0, .int .u8 0, .int .u8 0, .int .u8 0, .int .u8 0, .int .u8 0, .int .u8 0, .int .u8 0, .int .u8 0, .int .u8 0] 30)).alloc (.cells #[.int .u8 0, .int .u8 0, .int .u8 0, .int .u8 0, .int .u8 0, .int .u8 0, .int .u8 0, .int .u8 0, .int .u8 0, .int .u8 0, .int .u8 0, .int .u8 0, .int .u8 0, .int .u8 0, .int .u8 0, .int .u8 0, .int .u8 0, .int .u8 0, .int .u8 0, .int .u8 0, .int .u8 0, .int .u8 0, .int .u8 0, .int .u8 0, .int .u8 0, .int .u8 0, .int .u8 0, .int .u8 0, .int .u8 0, .int .u8 0, .int .u8 0, .int .u8 0] 30)) = .ok () w2 ∧ (writeAt (.pointer (some ⟨w1.heap.size + 1, 0, none⟩)) (.agg M)).run Tryd.prog w2 = .ok () w3 ∧ Row w3 w1.heap.size 30 L ∧ Row w3 (w1.heap.size + 1) 30 M ∧ Below w1.heap.size w1 w3 ∧ w3.heap.size = w1.heap.size + 2 := by
  obtain ⟨W, hW⟩ : ∃ W, W = ((w1.alloc (.cells (nums .u8 (List.replicate 32 0)) 30)).alloc (.cells (nums .u8 (List.replicate 32 0)) 30)) := ⟨_, rfl⟩
  have h1 : Row W w1.heap.size 30 (nums .u8 (List.replicate 32 0)) := by rw [hW]; exact (Row.made _ _ _).alloc _
  have h2 : Row W (w1.heap.size + 1) 30 (nums .u8 (List.replicate 32 0)) := by rw [hW]; exact Row.made2 _ _ _ _
  have hb : Below w1.heap.size w1 W := by rw [hW]; exact ((Below.refl _ _).alloc (Nat.le_refl _) _).alloc (by simp) _
  have hz : W.heap.size = w1.heap.size + 2 := by rw [hW]; simp
  have h3 := h2.wfar (g' := w1.heap.size) (by omega) L
  refine ⟨W.setRow w1.heap.size L, (W.setRow w1.heap.size L).setRow (w1.heap.size + 1) M, ?_, h3.write (by rw [nums_size]; simp) hM oM, (h1.whole L).wfar (by omega) M, h3.whole M, below_setRow (below_setRow hb (Nat.le_refl _)) (by omega), by simp [hz]⟩
  have := h1.write (D := L) (by rw [nums_size]; simp) hL oL
  rw [hW] at this ⊢
  exact this
/-- What says holds: the older root, its two results, whatever they are, and hashes of its own. -/
structure SyR (w : World) (C : Array Value) (L : List (Nat × Array Value)) (W : World) : Prop where
  o : Row W w.heap.size 30 C
  r1 : ∃ P, P.size = 32 ∧ Row W (w.heap.size + 1) 30 P
  r2 : ∃ P, P.size = 32 ∧ Row W (w.heap.size + 2) 30 P
  ex : ∀ x ∈ L, Row W x.1 30 x.2 ∧ w.heap.size + 2 < x.1
  below : Below w.heap.size w W
theorem SyR.next {w : World} {C : Array Value} {L : List (Nat × Array Value)} {W W1 : World} (h : SyR w C L W) (hb : Below W.heap.size W W1) : SyR w C L W1 :=
  ⟨h.o.next hb, by obtain ⟨P, h1, h2⟩ := h.r1; exact ⟨P, h1, h2.next hb⟩, by obtain ⟨P, h1, h2⟩ := h.r2; exact ⟨P, h1, h2.next hb⟩, fun x hx => ⟨(h.ex x hx).1.next hb, (h.ex x hx).2⟩, below_new h.below hb⟩
theorem SyR.drew {w : World} {C : Array Value} {L : List (Nat × Array Value)} {W : World} (h : SyR w C L W) : SyR w C L W.drew := ⟨h.o, h.r1, h.r2, h.ex, h.below.drew⟩
theorem SyR.put1 {w : World} {C : Array Value} {L : List (Nat × Array Value)} {W : World} (h : SyR w C L W) (V : Array Value) (hV : V.size = 32) : SyR w C L (W.setRow (w.heap.size + 1) V) :=
  ⟨h.o.wfar (by omega) _, by obtain ⟨P, h1, h2⟩ := h.r1; exact ⟨V, hV, h2.whole V⟩, by obtain ⟨P, h1, h2⟩ := h.r2; exact ⟨P, h1, h2.wfar (by omega) _⟩, fun x hx => ⟨(h.ex x hx).1.wfar (by have := (h.ex x hx).2; omega) _, (h.ex x hx).2⟩, below_setRow h.below (by omega)⟩
theorem SyR.put2 {w : World} {C : Array Value} {L : List (Nat × Array Value)} {W : World} (h : SyR w C L W) (V : Array Value) (hV : V.size = 32) : SyR w C L (W.setRow (w.heap.size + 2) V) :=
  ⟨h.o.wfar (by omega) _, by obtain ⟨P, h1, h2⟩ := h.r1; exact ⟨P, h1, h2.wfar (by omega) _⟩, by obtain ⟨P, h1, h2⟩ := h.r2; exact ⟨V, hV, h2.whole V⟩, fun x hx => ⟨(h.ex x hx).1.wfar (by have := (h.ex x hx).2; omega) _, (h.ex x hx).2⟩, below_setRow h.below (by omega)⟩
theorem SyR.size {w : World} {C : Array Value} {L : List (Nat × Array Value)} {W : World} (h : SyR w C L W) : w.heap.size + 2 < W.heap.size := by obtain ⟨P, h1, h2⟩ := h.r2; exact h2.lt
theorem SyR.add {w : World} {C : Array Value} {L : List (Nat × Array Value)} {W W1 : World} (h : SyR w C L W) (hb : Below W.heap.size W W1) (g : Nat) (X : Array Value) (hr : Row W1 g 30 X) (hg : W.heap.size ≤ g) : SyR w C ((g, X) :: L) W1 := by
  have h' := h.next hb
  have hs := h.size
  refine ⟨h'.o, h'.r1, h'.r2, fun x hx => ?_, h'.below⟩
  rcases List.mem_cons.1 hx with rfl | hx
  · exact ⟨hr, by show w.heap.size + 2 < g; omega⟩
  · exact h'.ex x hx
theorem SyR.more {w : World} {C : Array Value} {L : List (Nat × Array Value)} {W : World} (h : SyR w C L W) (g : Nat) (X : Array Value) (hr : Row W g 30 X) (hg : w.heap.size + 2 < g) : SyR w C ((g, X) :: L) W := by
  refine ⟨h.o, h.r1, h.r2, fun x hx => ?_, h.below⟩
  rcases List.mem_cons.1 hx with rfl | hx
  · exact ⟨hr, hg⟩
  · exact h.ex x hx
theorem SyR.start (w : World) (C : Array Value) : SyR w C [] (((w.alloc (.cells C 30)).alloc (.cells (nums .u8 (List.replicate 32 0)) 30)).alloc (.cells (nums .u8 (List.replicate 32 0)) 30)) := by
  refine ⟨((Row.made _ _ _).alloc _).alloc _, ⟨_, by rw [nums_size]; simp, (Row.made2 _ _ _ _).alloc _⟩, ⟨nums .u8 (List.replicate 32 0), by rw [nums_size]; simp, ?_⟩, (fun x hx => nomatch hx), (((Below.refl _ _).alloc (Nat.le_refl _) _).alloc (by simp) _).alloc (by simp; omega) _⟩
  have := Row.made ((w.alloc (.cells C 30)).alloc (.cells (nums .u8 (List.replicate 32 0)) 30)) 30 (nums .u8 (List.replicate 32 0))
  rw [show ((w.alloc (.cells C 30)).alloc (.cells (nums .u8 (List.replicate 32 0)) 30)).heap.size = w.heap.size + 2 by simp] at this
  exact this
/-- Two hashes are handed back, and whether they are said. -/
def GivesT (w : World) (r : Option (List Int × List Int)) (e : Ending) (w' : World) : Prop :=
  (∃ Y Z : List Int, e = .returned (.tuple #[.agg (nums .u8 Y), .agg (nums .u8 Z), .bool r.isSome]) ∧ (Y.length = 32 ∧ bytes Y) ∧ (Z.length = 32 ∧ bytes Z) ∧ ∀ y, r = some y → Y = y.1 ∧ Z = y.2) ∧ Below w.heap.size w w'
attribute [local go_sem ↓ high] read_at write_at
set_option maxHeartbeats 16000000 in
theorem refSays_any (b : Nat) : ∀ (ps : List (List Int)) (older : List Int) (m n : Nat) (kn : Bool) (A : Option Addr) (c : Nat) (w : World), ps.length < b → (older.length = 32 ∧ bytes older) → 1 ≤ m → m ≤ n → n ≤ 9223372036854775807 → hashes ps → HL w w.heap.size A ps → ps.length ≤ c → c ≤ 9223372036854775807 →
    Calls Tryd.prog 21 #[.int .i64 (m : Int), .int .i64 (n : Int), .bool kn, .agg (nums .u8 older), .slice A ps.length c] w (GivesT w (saysR older m n kn ps.reverse)) := by
  induction b with
  | zero => intro ps older m n kn A c w hb; omega
  | succ b ih =>
    intro ps older m n kn A c w hb ho hm1 hmn hn hp hA hc hcm
    obtain ⟨q, hq⟩ : ∃ q, Hid (q = ps.length) := ⟨_, Lib.hid rfl⟩
    obtain ⟨C, hC⟩ : ∃ C, Hid (C = nums .u8 older) := ⟨_, Lib.hid rfl⟩
    have zC : Hid (C.size = 32) := Lib.hid (by rw [hC.out, nums_size]; exact ho.1)
    have oC : Hid (C.all (·.oneCell') = true) := Lib.hid (by rw [hC.out]; exact nums_one _ _)
    obtain ⟨R, hR⟩ : ∃ R, Hid (R = saysR older m n kn ps.reverse) := ⟨_, Lib.hid rfl⟩
    have H0 := Lib.hid (SyR.start w C)
    have HO := Lib.hid ho
    have HA := Lib.hid hA
    have HP := Lib.hid hp
    have hqc : q ≤ c := by rw [hq.out]; exact hc
    have hqb : q < b + 1 := by rw [hq.out]; exact hb
    rw [← hq.out, ← hC.out, ← hR.out]
    clear hA hp ho hb hc
    by_cases h1 : n ≤ m
    · have d1 : ((m : Int) == (n : Int)) = true := by simp; omega
      cases kn with
      | true =>
        have HR : Hid (R = if q = 0 then some (older, older) else none) := Lib.hid (by rw [hR.out, saysR_known h1, List.length_reverse, hq.out])
        by_cases hq0 : q = 0
        · have dq : ((q : Int) == 0) = true := by rw [hq0]; rfl
          have HR2 : Hid (R = some (older, older)) := Lib.hid (by rw [HR.out, if_pos hq0])
          clear hq0 ih
          go_enter Tryd.func21, Tryd.ntmps21
          go_upto_region 1 with fail
          refine world_gen (fun W => SyR w C [] W) H0.out (fun wx HX => ?_)
          have HX := Lib.hid HX
          go_upto_region 2 with fail
          refine wp_region_fk (SyR w C []) (.get 0 (.get 1 (.get 2 (.get 3 (.get 4 (.call 5 (.call 6 (.get 7 .done)))))))) (by kernel_rfl) rfl (by kernel_rfl) (by kernel_rfl) (by intro c a d v w h; cases d <;> exact h) HX.out.drew (fun Q' hQ => ?_)
          have HS := Lib.hid HX.out.drew
          have HQ := Lib.hid hQ
          clear hQ
          refine wpFk_get rfl (by rfl) (fun K hK => ?_)
          refine ⟨_, fun w' hS' => get_load rfl rfl (hS'.o.read zC.out), ?_⟩
          try go_simp
          refine hK _ ?_
          clear hK K
          refine wpFk_get rfl (by rfl) (fun K hK => ?_)
          refine ⟨_, fun w' hS' => get_load rfl rfl (hS'.o.read zC.out), ?_⟩
          try go_simp
          refine hK _ ?_
          clear hK K
          refine wpFk_get rfl (by rfl) (fun K hK => ?_)
          refine ⟨?_, fun w' hS' => ?_, ?_⟩
          rotate_left
          · go_simp
            try (with_reducible rfl)
          try go_simp
          refine hK _ ?_
          clear hK K
          refine wpFk_get rfl (by rfl) (fun K hK => ?_)
          refine ⟨?_, fun w' hS' => ?_, ?_⟩
          rotate_left
          · go_simp
            try (with_reducible rfl)
          try go_simp
          refine hK _ ?_
          clear hK K
          refine wpFk_get rfl (by rfl) (fun K hK => ?_)
          refine ⟨?_, fun w' hS' => ?_, ?_⟩
          rotate_left
          · go_simp
            try (with_reducible rfl)
          try go_simp
          refine hK _ ?_
          clear hK K
          refine wpFk_call rfl (by rfl) (fun K hK => ?_)
          obtain ⟨P1, hP1, hR1⟩ := HS.out.r1
          have s6 := hR1.write hP1 zC.out oC.out
          go_simp
          have HV1 := Lib.hid (hR1.whole C)
          replace HS := Lib.hid (HS.out.put1 C zC.out)
          clear s6 hR1 hP1
          refine hK _ _ HS.out ?_
          clear hK K
          refine wpFk_call rfl (by rfl) (fun K hK => ?_)
          obtain ⟨P2, hP2, hR2⟩ := HS.out.r2
          have s6 := hR2.write hP2 zC.out oC.out
          go_simp
          have HV2 := Lib.hid (hR2.whole C)
          replace HV1 := Lib.hid (HV1.out.wfar (g' := w.heap.size + 2) (by omega) C)
          replace HS := Lib.hid (HS.out.put2 C zC.out)
          clear s6 hR2 hP2
          refine hK _ _ HS.out ?_
          clear hK K
          refine wpFk_get rfl (by rfl) (fun K hK => ?_)
          refine ⟨?_, fun w' hS' => ?_, ?_⟩
          rotate_left
          · go_simp
            try (with_reducible rfl)
          try go_simp
          refine hK _ ?_
          clear hK K
          refine wpFk_done ?_
          refine HQ.out _ _ ?_
          go_wp2
          refine bodyPost_ret (results_row3 rfl _ _ (w.heap.size + 1) (w.heap.size + 2) 30 _ _ _ rfl rfl HV1.out HV2.out Tryd.underlying30 rfl (sizeH _ zC.out) (sizeH _ zC.out) _ rfl) rfl ?_
          exact ⟨⟨older, older, by rw [hC.out, HR2.out]; rfl, HO.out, HO.out, fun y hy => by rw [HR2.out] at hy; cases hy; exact ⟨rfl, rfl⟩⟩, HS.out.below⟩
        · have dq : ((q : Int) == 0) = false := by simp; omega
          have HR2 : Hid (R = none) := Lib.hid (by rw [HR.out, if_neg hq0])
          clear hq0 ih
          go_enter Tryd.func21, Tryd.ntmps21
          go_upto_region 1 with fail
          refine world_gen (fun W => SyR w C [] W) H0.out (fun wx HX => ?_)
          have HX := Lib.hid HX
          go_upto_region 2 with fail
          refine wp_region_fk (SyR w C []) (.get 0 (.get 1 (.get 2 (.get 3 (.get 4 (.call 5 (.call 6 (.get 7 .done)))))))) (by kernel_rfl) rfl (by kernel_rfl) (by kernel_rfl) (by intro c a d v w h; cases d <;> exact h) HX.out.drew (fun Q' hQ => ?_)
          have HS := Lib.hid HX.out.drew
          have HQ := Lib.hid hQ
          clear hQ
          refine wpFk_get rfl (by rfl) (fun K hK => ?_)
          refine ⟨_, fun w' hS' => get_load rfl rfl (hS'.o.read zC.out), ?_⟩
          try go_simp
          refine hK _ ?_
          clear hK K
          refine wpFk_get rfl (by rfl) (fun K hK => ?_)
          refine ⟨_, fun w' hS' => get_load rfl rfl (hS'.o.read zC.out), ?_⟩
          try go_simp
          refine hK _ ?_
          clear hK K
          refine wpFk_get rfl (by rfl) (fun K hK => ?_)
          refine ⟨?_, fun w' hS' => ?_, ?_⟩
          rotate_left
          · go_simp
            try (with_reducible rfl)
          try go_simp
          refine hK _ ?_
          clear hK K
          refine wpFk_get rfl (by rfl) (fun K hK => ?_)
          refine ⟨?_, fun w' hS' => ?_, ?_⟩
          rotate_left
          · go_simp
            try (with_reducible rfl)
          try go_simp
          refine hK _ ?_
          clear hK K
          refine wpFk_get rfl (by rfl) (fun K hK => ?_)
          refine ⟨?_, fun w' hS' => ?_, ?_⟩
          rotate_left
          · go_simp
            try (with_reducible rfl)
          try go_simp
          refine hK _ ?_
          clear hK K
          refine wpFk_call rfl (by rfl) (fun K hK => ?_)
          obtain ⟨P1, hP1, hR1⟩ := HS.out.r1
          have s6 := hR1.write hP1 zC.out oC.out
          go_simp
          have HV1 := Lib.hid (hR1.whole C)
          replace HS := Lib.hid (HS.out.put1 C zC.out)
          clear s6 hR1 hP1
          refine hK _ _ HS.out ?_
          clear hK K
          refine wpFk_call rfl (by rfl) (fun K hK => ?_)
          obtain ⟨P2, hP2, hR2⟩ := HS.out.r2
          have s6 := hR2.write hP2 zC.out oC.out
          go_simp
          have HV2 := Lib.hid (hR2.whole C)
          replace HV1 := Lib.hid (HV1.out.wfar (g' := w.heap.size + 2) (by omega) C)
          replace HS := Lib.hid (HS.out.put2 C zC.out)
          clear s6 hR2 hP2
          refine hK _ _ HS.out ?_
          clear hK K
          refine wpFk_get rfl (by rfl) (fun K hK => ?_)
          refine ⟨?_, fun w' hS' => ?_, ?_⟩
          rotate_left
          · go_simp
            try (with_reducible rfl)
          try go_simp
          refine hK _ ?_
          clear hK K
          refine wpFk_done ?_
          refine HQ.out _ _ ?_
          go_wp2
          refine bodyPost_ret (results_row3 rfl _ _ (w.heap.size + 1) (w.heap.size + 2) 30 _ _ _ rfl rfl HV1.out HV2.out Tryd.underlying30 rfl (sizeH _ zC.out) (sizeH _ zC.out) _ rfl) rfl ?_
          exact ⟨⟨older, older, by rw [hC.out, HR2.out]; rfl, HO.out, HO.out, fun y hy => by rw [HR2.out] at hy; cases hy⟩, HS.out.below⟩
      | false =>
        have HR : Hid (R = if q = 1 then some (ps.reverse.getD 0 [], ps.reverse.getD 0 []) else none) := Lib.hid (by rw [hR.out, saysR_not h1, List.length_reverse, hq.out])
        by_cases hq0 : q = 1
        · have dq : ((q : Int) != 1) = false := by rw [hq0]; rfl
          have dq3 : ((q : Int) == 1) = true := by rw [hq0]; rfl
          have dq1 : (0 : Int) < (q : Int) := by omega
          have dq2 : 0 < q := by omega
          have hps0 : 0 < ps.length := by rw [← hq.out]; omega
          obtain ⟨ad, rfl⟩ := HL.some HA.out 0 hps0
          obtain ⟨x, hx⟩ : ∃ x, Hid (x = ps.getD 0 []) := ⟨_, Lib.hid rfl⟩
          obtain ⟨X, hX⟩ : ∃ X, Hid (X = nums .u8 x) := ⟨_, Lib.hid rfl⟩
          have HX32 : Hid (x.length = 32 ∧ bytes x) := Lib.hid (by rw [hx.out]; exact hashes_at HP.out 0 hps0)
          have zX : Hid (X.size = 32) := Lib.hid (by rw [hX.out, nums_size]; exact HX32.out.1)
          have oX : Hid (X.all (·.oneCell') = true) := Lib.hid (by rw [hX.out]; exact nums_one _ _)
          have RD : Hid (∀ W, Below w.heap.size w W → (readAt (.pointer (some ad))).run Tryd.prog W = .ok (.agg X) W) := Lib.hid fun W hW => by
            have := HL.read (HA.out.next hW (Nat.le_refl _)) HP.out 0 hps0
            rw [show ad.add (0 * 32) = ad by rw [Nat.zero_mul]; exact ad_zero ad] at this
            rw [hX.out, hx.out]; exact this
          have HR2 : Hid (R = some (x, x)) := Lib.hid (by
            have e : ps.length = 1 := by rw [← hq.out]; exact hq0
            have e2 : ps.reverse.getD 0 [] = ps.getD 0 [] := by
              cases ps with
              | nil => simp at e
              | cons y r => cases r with
                | nil => rfl
                | cons z r => simp at e
            rw [HR.out, if_pos hq0, e2, ← hx.out])
          clear hq0 hps0 ih
          go_enter Tryd.func21, Tryd.ntmps21
          go_upto_region 1 with fail
          refine world_gen (fun W => SyR w C [] W) H0.out (fun wx HX => ?_)
          have HX := Lib.hid HX
          go_upto_region 6 with fail
          refine wp_region_fk (SyR w C []) (.get 0 (.get 1 (.get 2 (.get 3 (.get 4 (.get 5 (.call 6 (.call 7 (.get 8 .done))))))))) (by kernel_rfl) rfl (by kernel_rfl) (by kernel_rfl) (by intro c a d v w h; cases d <;> exact h) HX.out.drew (fun Q' hQ => ?_)
          have HS := Lib.hid HX.out.drew
          have HQ := Lib.hid hQ
          clear hQ
          refine wpFk_get rfl (by rfl) (fun K hK => ?_)
          refine ⟨?_, fun w' hS' => ?_, ?_⟩
          rotate_left
          · go_simp
            try (with_reducible rfl)
          try go_simp
          refine hK _ ?_
          clear hK K
          refine wpFk_get rfl (by rfl) (fun K hK => ?_)
          refine ⟨?_, fun w' hS' => ?_, ?_⟩
          rotate_left
          · go_simp
            try (with_reducible rfl)
          try go_simp
          refine hK _ ?_
          clear hK K
          refine wpFk_get rfl (by rfl) (fun K hK => ?_)
          refine ⟨_, fun w' hS' => get_load rfl rfl (RD.out _ hS'.below), ?_⟩
          try go_simp
          refine hK _ ?_
          clear hK K
          refine wpFk_get rfl (by rfl) (fun K hK => ?_)
          refine ⟨?_, fun w' hS' => ?_, ?_⟩
          rotate_left
          · go_simp
            try (with_reducible rfl)
          try go_simp
          refine hK _ ?_
          clear hK K
          refine wpFk_get rfl (by rfl) (fun K hK => ?_)
          refine ⟨?_, fun w' hS' => ?_, ?_⟩
          rotate_left
          · go_simp
            try (with_reducible rfl)
          try go_simp
          refine hK _ ?_
          clear hK K
          refine wpFk_get rfl (by rfl) (fun K hK => ?_)
          refine ⟨_, fun w' hS' => get_load rfl rfl (RD.out _ hS'.below), ?_⟩
          try go_simp
          refine hK _ ?_
          clear hK K
          refine wpFk_call rfl (by rfl) (fun K hK => ?_)
          obtain ⟨P1, hP1, hR1⟩ := HS.out.r1
          have s6 := hR1.write hP1 zX.out oX.out
          go_simp
          have HV1 := Lib.hid (hR1.whole X)
          replace HS := Lib.hid (HS.out.put1 X zX.out)
          clear s6 hR1 hP1
          refine hK _ _ HS.out ?_
          clear hK K
          refine wpFk_call rfl (by rfl) (fun K hK => ?_)
          obtain ⟨P2, hP2, hR2⟩ := HS.out.r2
          have s6 := hR2.write hP2 zX.out oX.out
          go_simp
          have HV2 := Lib.hid (hR2.whole X)
          replace HV1 := Lib.hid (HV1.out.wfar (g' := w.heap.size + 2) (by omega) X)
          replace HS := Lib.hid (HS.out.put2 X zX.out)
          clear s6 hR2 hP2
          refine hK _ _ HS.out ?_
          clear hK K
          refine wpFk_get rfl (by rfl) (fun K hK => ?_)
          refine ⟨?_, fun w' hS' => ?_, ?_⟩
          rotate_left
          · go_simp
            try (with_reducible rfl)
          try go_simp
          refine hK _ ?_
          clear hK K
          refine wpFk_done ?_
          refine HQ.out _ _ ?_
          go_wp2
          refine bodyPost_ret (results_row3 rfl _ _ (w.heap.size + 1) (w.heap.size + 2) 30 _ _ _ rfl rfl HV1.out HV2.out Tryd.underlying30 rfl (sizeH _ zX.out) (sizeH _ zX.out) _ rfl) rfl ?_
          exact ⟨⟨x, x, by rw [hX.out, HR2.out]; rfl, HX32.out, HX32.out, fun y hy => by rw [HR2.out] at hy; cases hy; exact ⟨rfl, rfl⟩⟩, HS.out.below⟩
        · have dq : ((q : Int) != 1) = true := by simp; omega
          have dq3 : ((q : Int) == 1) = false := by simp; omega
          have HR2 : Hid (R = none) := Lib.hid (by rw [HR.out, if_neg hq0])
          clear hq0 ih
          go_enter Tryd.func21, Tryd.ntmps21
          go_upto_region 1 with fail
          refine world_gen (fun W => SyR w C [] W) H0.out (fun wx HX => ?_)
          have HX := Lib.hid HX
          go_upto_region 5 with fail
          refine wp_region_fk (SyR w C []) (.get 0 (.get 1 (.call 2 (.call 3 (.get 4 .done))))) (by kernel_rfl) rfl (by kernel_rfl) (by kernel_rfl) (by intro c a d v w h; cases d <;> exact h) HX.out.drew (fun Q' hQ => ?_)
          have HS := Lib.hid HX.out.drew
          have HQ := Lib.hid hQ
          clear hQ
          refine wpFk_get rfl (by rfl) (fun K hK => ?_)
          refine ⟨_, fun w' hS' => get_load rfl rfl (hS'.o.read zC.out), ?_⟩
          try go_simp
          refine hK _ ?_
          clear hK K
          refine wpFk_get rfl (by rfl) (fun K hK => ?_)
          refine ⟨_, fun w' hS' => get_load rfl rfl (hS'.o.read zC.out), ?_⟩
          try go_simp
          refine hK _ ?_
          clear hK K
          refine wpFk_call rfl (by rfl) (fun K hK => ?_)
          obtain ⟨P1, hP1, hR1⟩ := HS.out.r1
          have s6 := hR1.write hP1 zC.out oC.out
          go_simp
          have HV1 := Lib.hid (hR1.whole C)
          replace HS := Lib.hid (HS.out.put1 C zC.out)
          clear s6 hR1 hP1
          refine hK _ _ HS.out ?_
          clear hK K
          refine wpFk_call rfl (by rfl) (fun K hK => ?_)
          obtain ⟨P2, hP2, hR2⟩ := HS.out.r2
          have s6 := hR2.write hP2 zC.out oC.out
          go_simp
          have HV2 := Lib.hid (hR2.whole C)
          replace HV1 := Lib.hid (HV1.out.wfar (g' := w.heap.size + 2) (by omega) C)
          replace HS := Lib.hid (HS.out.put2 C zC.out)
          clear s6 hR2 hP2
          refine hK _ _ HS.out ?_
          clear hK K
          refine wpFk_get rfl (by rfl) (fun K hK => ?_)
          refine ⟨?_, fun w' hS' => ?_, ?_⟩
          rotate_left
          · go_simp
            try (with_reducible rfl)
          try go_simp
          refine hK _ ?_
          clear hK K
          refine wpFk_done ?_
          refine HQ.out _ _ ?_
          go_wp2
          refine bodyPost_ret (results_row3 rfl _ _ (w.heap.size + 1) (w.heap.size + 2) 30 _ _ _ rfl rfl HV1.out HV2.out Tryd.underlying30 rfl (sizeH _ zC.out) (sizeH _ zC.out) _ rfl) rfl ?_
          exact ⟨⟨older, older, by rw [hC.out, HR2.out]; rfl, HO.out, HO.out, fun y hy => by rw [HR2.out] at hy; cases hy⟩, HS.out.below⟩
    · have d1 : ((m : Int) == (n : Int)) = false := by simp; omega
      by_cases hq0 : q = 0
      · have dq : ((q : Int) == 0) = true := by rw [hq0]; rfl
        have HR2 : Hid (R = none) := Lib.hid (by
          have e : ps = [] := List.eq_nil_of_length_eq_zero (by rw [← hq.out]; exact hq0)
          rw [hR.out, e, List.reverse_nil, saysR_none h1])
        clear hq0 ih
        go_enter Tryd.func21, Tryd.ntmps21
        go_upto_region 1 with fail
        refine world_gen (fun W => SyR w C [] W) H0.out (fun wx HX => ?_)
        have HX := Lib.hid HX
        go_upto_region 8 with fail
        refine wp_region_fk (SyR w C []) (.get 0 (.get 1 (.call 2 (.call 3 (.get 4 .done))))) (by kernel_rfl) rfl (by kernel_rfl) (by kernel_rfl) (by intro c a d v w h; cases d <;> exact h) HX.out.drew (fun Q' hQ => ?_)
        have HS := Lib.hid HX.out.drew
        have HQ := Lib.hid hQ
        clear hQ
        refine wpFk_get rfl (by rfl) (fun K hK => ?_)
        refine ⟨_, fun w' hS' => get_load rfl rfl (hS'.o.read zC.out), ?_⟩
        try go_simp
        refine hK _ ?_
        clear hK K
        refine wpFk_get rfl (by rfl) (fun K hK => ?_)
        refine ⟨_, fun w' hS' => get_load rfl rfl (hS'.o.read zC.out), ?_⟩
        try go_simp
        refine hK _ ?_
        clear hK K
        refine wpFk_call rfl (by rfl) (fun K hK => ?_)
        obtain ⟨P1, hP1, hR1⟩ := HS.out.r1
        have s6 := hR1.write hP1 zC.out oC.out
        go_simp
        have HV1 := Lib.hid (hR1.whole C)
        replace HS := Lib.hid (HS.out.put1 C zC.out)
        clear s6 hR1 hP1
        refine hK _ _ HS.out ?_
        clear hK K
        refine wpFk_call rfl (by rfl) (fun K hK => ?_)
        obtain ⟨P2, hP2, hR2⟩ := HS.out.r2
        have s6 := hR2.write hP2 zC.out oC.out
        go_simp
        have HV2 := Lib.hid (hR2.whole C)
        replace HV1 := Lib.hid (HV1.out.wfar (g' := w.heap.size + 2) (by omega) C)
        replace HS := Lib.hid (HS.out.put2 C zC.out)
        clear s6 hR2 hP2
        refine hK _ _ HS.out ?_
        clear hK K
        refine wpFk_get rfl (by rfl) (fun K hK => ?_)
        refine ⟨?_, fun w' hS' => ?_, ?_⟩
        rotate_left
        · go_simp
          try (with_reducible rfl)
        try go_simp
        refine hK _ ?_
        clear hK K
        refine wpFk_done ?_
        refine HQ.out _ _ ?_
        go_wp2
        refine bodyPost_ret (results_row3 rfl _ _ (w.heap.size + 1) (w.heap.size + 2) 30 _ _ _ rfl rfl HV1.out HV2.out Tryd.underlying30 rfl (sizeH _ zC.out) (sizeH _ zC.out) _ rfl) rfl ?_
        exact ⟨⟨older, older, by rw [hC.out, HR2.out]; rfl, HO.out, HO.out, fun y hy => by rw [HR2.out] at hy; cases hy⟩, HS.out.below⟩
      · have dq : ((q : Int) == 0) = false := by simp; omega
        obtain ⟨t, ht⟩ : ∃ t : Nat, Hid (q = t + 1) := ⟨q - 1, Lib.hid (by omega)⟩
        have e4 : (q : Int) - 1 = (t : Int) := by have := ht.out; omega
        have e5 : (t : Int) < (q : Int) := by have := ht.out; omega
        have e6 : (0 : Int) ≤ (t : Int) := by omega
        have e7 : (t : Int) ≤ (c : Int) := by have := ht.out; omega
        have e8 : t ≤ c := by have := ht.out; omega
        have e9 : (t : Int) ≤ (q : Int) := by omega
        have e10 : (q : Int) ≤ (c : Int) := by omega
        have hwt : IntKind.i64.wrap (t : Int) = (t : Int) := by rw [IntKind.wrap_i64]; have := ht.out; omega
        have hptl : t < ps.length := by rw [← hq.out]; have := ht.out; omega
        have hpt : Hid (ps.length = t + 1) := Lib.hid (by rw [← hq.out, ht.out])
        obtain ⟨ad, rfl⟩ := HL.some HA.out t hptl
        obtain ⟨x, hx⟩ : ∃ x, Hid (x = ps.getD t []) := ⟨_, Lib.hid rfl⟩
        obtain ⟨X, hX⟩ : ∃ X, Hid (X = nums .u8 x) := ⟨_, Lib.hid rfl⟩
        have HX32 : Hid (x.length = 32 ∧ bytes x) := Lib.hid (by rw [hx.out]; exact hashes_at HP.out t hptl)
        have zX : Hid (X.size = 32) := Lib.hid (by rw [hX.out, nums_size]; exact HX32.out.1)
        have oX : Hid (X.all (·.oneCell') = true) := Lib.hid (by rw [hX.out]; exact nums_one _ _)
        have RD : Hid (∀ W, Below w.heap.size w W → (readAt (.pointer (some (ad.add (t * 32))))).run Tryd.prog W = .ok (.agg X) W) := Lib.hid fun W hW => by
          rw [hX.out, hx.out]; exact HL.read (HA.out.next hW (Nat.le_refl _)) HP.out t hptl
        obtain ⟨k, hk⟩ : ∃ k, Hid (k = splitN n) := ⟨_, Lib.hid rfl⟩
        have hk1 : 0 < k := by rw [hk.out]; exact splitN_pos _ (by omega)
        have hk2 : k < n := by rw [hk.out]; exact splitN_lt _ (by omega)
        have S1 : Hid (∀ W, Calls Tryd.prog 26 #[.int .i64 (n : Int)] W fun ev w' => ev = .returned (.int .i64 (k : Int)) ∧ W = w') := Lib.hid fun W =>
          (refSplit_any (n : Int) (by omega) W).mono fun ev w' ⟨he, hw⟩ => ⟨by rw [he]; unfold splitI; rw [show ((n : Int)).toNat = n by omega, hk.out], hw⟩
        have HLn : (ps.take t).length = t := by rw [List.length_take, hpt.out]; omega
        have hrev : ps.reverse = x :: (ps.take t).reverse := by rw [hx.out]; exact last_parts hpt.out
        clear hptl
        by_cases hlt : m ≤ k
        · have dl : (m : Int) ≤ (k : Int) := by omega
          obtain ⟨R', hR'⟩ : ∃ R', Hid (R' = saysR older m k kn (ps.take t).reverse) := ⟨_, Lib.hid rfl⟩
          have HR2 : Hid (R = R'.map (fun y => (y.1, nodeL y.2 x))) := Lib.hid (by rw [hR.out, hrev, saysR_left h1 (by rw [← hk.out]; exact hlt), ← hk.out, hR'.out])
          have X1 : Hid (∀ W, Below w.heap.size w W → Calls Tryd.prog 21 #[.int .i64 (m : Int), .int .i64 (k : Int), .bool kn, .agg C, .slice (some ad) t c] W (GivesT W R')) := Lib.hid fun W hW => by
            have := ih (ps.take t) older m k kn (some ad) c W (by rw [HLn]; have := ht.out; omega) HO.out hm1 hlt (by omega) (hashes_take HP.out t) ((HL.take HA.out t).from hW) (by rw [HLn]; exact e8) hcm
            rw [HLn, ← hC.out, ← hR'.out] at this
            exact this
          clear ih HLn hrev
          go_enter Tryd.func21, Tryd.ntmps21
          go_upto_region 1 with fail
          refine world_gen (fun W => SyR w C [] W) H0.out (fun wx HX => ?_)
          have HX := Lib.hid HX
          go_upto_region 9 with fail
          refine wp_region_fk (Below wx.heap.size wx) (.get 0 (.get 2 (.get 3 (.get 4 (.get 5 (.get 6 (.get 7 (.fork 1 8 (.call 8 (.get 9 (.call 10 .done))) (.call 1 (.get 9 (.call 10 .done))))))))))) (by kernel_rfl) rfl (by kernel_rfl) (by kernel_rfl) (by intro c a d v w h; cases d <;> exact h) ((Below.refl wx.heap.size wx).drew) (fun Q' hQ => ?_)
          have HS := Lib.hid ((Below.refl wx.heap.size wx).drew)
          have HQ := Lib.hid hQ
          clear hQ
          refine wpFk_get rfl (by rfl) (fun K hK => ?_)
          refine ⟨?_, fun w' hS' => ?_, ?_⟩
          rotate_left
          · go_simp
            try (with_reducible rfl)
          try go_simp
          refine hK _ ?_
          clear hK K
          refine wpFk_get rfl (by rfl) (fun K hK => ?_)
          refine ⟨?_, fun w' hS' => ?_, ?_⟩
          rotate_left
          · go_simp
            try (with_reducible rfl)
          try go_simp
          refine hK _ ?_
          clear hK K
          refine wpFk_get rfl (by rfl) (fun K hK => ?_)
          refine ⟨?_, fun w' hS' => ?_, ?_⟩
          rotate_left
          · go_simp
            try (with_reducible rfl)
          try go_simp
          refine hK _ ?_
          clear hK K
          refine wpFk_get rfl (by rfl) (fun K hK => ?_)
          refine ⟨?_, fun w' hS' => ?_, ?_⟩
          rotate_left
          · go_simp
            try (with_reducible rfl)
          try go_simp
          refine hK _ ?_
          clear hK K
          refine wpFk_get rfl (by rfl) (fun K hK => ?_)
          refine ⟨?_, fun w' hS' => ?_, ?_⟩
          rotate_left
          · go_simp
            try (with_reducible rfl)
          try go_simp
          refine hK _ ?_
          clear hK K
          refine wpFk_get rfl (by rfl) (fun K hK => ?_)
          refine ⟨?_, fun w' hS' => ?_, ?_⟩
          rotate_left
          · go_simp
            try (with_reducible rfl)
          try go_simp
          refine hK _ ?_
          clear hK K
          refine wpFk_get rfl (by rfl) (fun K hK => ?_)
          refine ⟨_, fun w' hS' => get_load rfl rfl (RD.out _ (below_new HX.out.below hS')), ?_⟩
          try go_simp
          refine hK _ ?_
          clear hK K
          refine wpFk_fork ?_ ?_
          · refine wpFk_call rfl (by rfl) (fun K hK => ?_)
            go_simp
            go_at_call 26
            refine (S1.out _).mono ?_
            rintro e w' ⟨rfl, rfl⟩
            refine hK _ _ HS.out ?_
            clear hK K
            refine wpFk_call rfl (by rfl) (fun K hK => ?_)
            go_simp
            obtain ⟨w5, s5, hr5, hb5, hz5⟩ := made_writeD wx X zX.out oX.out
            have HR5 := Lib.hid hr5
            have HB5 := Lib.hid hb5
            clear hr5 hb5 hz5
            replace HS := Lib.hid (HS.out.alloc HS.out.size (.cells (nums .u8 (List.replicate 32 0)) 30))
            refine hK _ _ HS.out ?_
            clear hK K
            refine wpFk_get rfl (by rfl) (fun K hK => ?_)
            refine ⟨?_, fun w' hS' => ?_, ?_⟩
            rotate_left
            · go_simp
              try (with_reducible rfl)
            try go_simp
            refine hK _ ?_
            clear hK K
            refine wpFk_call rfl (by rfl) (fun K hK => ?_)
            go_simp
            replace HS : Hid (Below wx.heap.size wx w5) := HB5
            clear s5
            refine hK _ _ HS.out ?_
            clear hK K
            refine wpFk_done ?_
            refine HQ.out _ _ ?_
            have HC5 := Lib.hid (HX.out.add HB5.out wx.heap.size X HR5.out (Nat.le_refl _))
            have s4 := HC5.out.o.read zC.out
            clear HS HQ HB5 HR5
            go_upto_region 13 with (go_at_call 21; (with_reducible refine (X1.out _ HC5.out.below).mono ?_); rintro e w6 ⟨⟨Y, Z, rfl, hy, hz, hyz⟩, hb⟩; obtain ⟨YY, hYY⟩ : ∃ V, Hid (V = nums .u8 Y) := ⟨_, Lib.hid rfl⟩; obtain ⟨ZZ, hZZ⟩ : ∃ V, Hid (V = nums .u8 Z) := ⟨_, Lib.hid rfl⟩; rw [← hYY.out, ← hZZ.out]; have HY := Lib.hid hy; have HZ := Lib.hid hz; have HYZ := Lib.hid hyz; clear hy hz hyz; have zY : Hid (YY.size = 32) := Lib.hid (by rw [hYY.out, nums_size]; exact HY.out.1); have oY : Hid (YY.all (·.oneCell') = true) := Lib.hid (by rw [hYY.out]; exact nums_one _ _); have zZ : Hid (ZZ.size = 32) := Lib.hid (by rw [hZZ.out, nums_size]; exact HZ.out.1); have oZ : Hid (ZZ.all (·.oneCell') = true) := Lib.hid (by rw [hZZ.out]; exact nums_one _ _); have HC6 := Lib.hid (HC5.out.next hb); obtain ⟨w7, w8, s7, s8, hr7, hr8, hb8, hz8⟩ := made_two w6 YY ZZ zY.out oY.out zZ.out oZ.out; have HC8 := Lib.hid (HC6.out.add hb8 w6.heap.size YY hr7 (Nat.le_refl _)); have HR8 := Lib.hid hr8; have HB8 := Lib.hid hb8; clear hr7 hr8 hb8 hz8 hb s4)
            have HX8 : Hid (SyR w C [(w6.heap.size + 1, ZZ), (w6.heap.size, YY), (wx.heap.size, X)] w8) := Lib.hid (HC6.out.add HB8.out w6.heap.size YY (HC8.out.ex (w6.heap.size, YY) (by simp)).1 (Nat.le_refl _) |>.more (w6.heap.size + 1) ZZ HR8.out (by have := HC6.out.size; omega))
            clear s7 s8 HC5 HC6 HC8 HR8 HB8 HX
            obtain ⟨V2, hV2⟩ : ∃ V, Hid (V = nums .u8 (nodeL Z x)) := ⟨_, Lib.hid rfl⟩
            have zV2 : Hid (V2.size = 32) := Lib.hid (by rw [hV2.out, nums_size]; exact (nodeL_is _ _).1)
            have oV2 : Hid (V2.all (·.oneCell') = true) := Lib.hid (by rw [hV2.out]; exact nums_one _ _)
            have NA : Hid (∀ W, Calls Tryd.prog 31 #[.agg ZZ, .agg X] W fun ev w' => ev = .returned (.agg V2) ∧ Below W.heap.size W w') := Lib.hid (fun W => by rw [hZZ.out, hX.out, hV2.out]; exact refNode_any _ _ HZ.out.1 HX32.out.1 W)
            refine wp_region_fk (SyR w C [(w6.heap.size + 1, ZZ), (w6.heap.size, YY), (wx.heap.size, X)]) (.get 0 (.get 1 (.get 2 (.get 4 (.call 3 (.call 5 (.call 6 (.get 7 .done)))))))) (by kernel_rfl) rfl (by kernel_rfl) (by kernel_rfl) (by intro c a d v w h; cases d <;> exact h) HX8.out.drew (fun Q' hQ => ?_)
            have HS := Lib.hid HX8.out.drew
            have HQ := Lib.hid hQ
            clear hQ
            refine wpFk_get rfl (by rfl) (fun K hK => ?_)
            refine ⟨_, fun w' hS' => get_load rfl rfl ((hS'.ex (w6.heap.size, YY) (by simp)).1.read zY.out), ?_⟩
            try go_simp
            refine hK _ ?_
            clear hK K
            refine wpFk_get rfl (by rfl) (fun K hK => ?_)
            refine ⟨_, fun w' hS' => get_load rfl rfl ((hS'.ex (w6.heap.size + 1, ZZ) (by simp)).1.read zZ.out), ?_⟩
            try go_simp
            refine hK _ ?_
            clear hK K
            refine wpFk_get rfl (by rfl) (fun K hK => ?_)
            refine ⟨_, fun w' hS' => get_load rfl rfl ((hS'.ex (wx.heap.size, X) (by simp)).1.read zX.out), ?_⟩
            try go_simp
            refine hK _ ?_
            clear hK K
            refine wpFk_get rfl (by rfl) (fun K hK => ?_)
            refine ⟨?_, fun w' hS' => ?_, ?_⟩
            rotate_left
            · go_simp
              try (with_reducible rfl)
            try go_simp
            refine hK _ ?_
            clear hK K
            refine wpFk_call rfl (by rfl) (fun K hK => ?_)
            go_simp
            go_at_call 31
            refine (NA.out _).mono ?_
            rintro e w2x ⟨rfl, hb⟩
            replace HS := Lib.hid (HS.out.next hb)
            clear hb
            refine hK _ _ HS.out ?_
            clear hK K
            refine wpFk_call rfl (by rfl) (fun K hK => ?_)
            obtain ⟨P1, hP1, hR1⟩ := HS.out.r1
            have s6 := hR1.write hP1 zY.out oY.out
            go_simp
            have HV1 := Lib.hid (hR1.whole YY)
            replace HS := Lib.hid (HS.out.put1 YY zY.out)
            clear s6 hR1 hP1
            refine hK _ _ HS.out ?_
            clear hK K
            refine wpFk_call rfl (by rfl) (fun K hK => ?_)
            obtain ⟨P2, hP2, hR2⟩ := HS.out.r2
            have s6 := hR2.write hP2 zV2.out oV2.out
            go_simp
            have HV2 := Lib.hid (hR2.whole V2)
            replace HV1 := Lib.hid (HV1.out.wfar (g' := w.heap.size + 2) (by omega) V2)
            replace HS := Lib.hid (HS.out.put2 V2 zV2.out)
            clear s6 hR2 hP2
            refine hK _ _ HS.out ?_
            clear hK K
            refine wpFk_get rfl (by rfl) (fun K hK => ?_)
            refine ⟨?_, fun w' hS' => ?_, ?_⟩
            rotate_left
            · go_simp
              try (with_reducible rfl)
            try go_simp
            refine hK _ ?_
            clear hK K
            refine wpFk_done ?_
            refine HQ.out _ _ ?_
            go_wp2
            refine bodyPost_ret (results_row3 rfl _ _ (w.heap.size + 1) (w.heap.size + 2) 30 _ _ _ rfl rfl HV1.out HV2.out Tryd.underlying30 rfl (sizeH _ zY.out) (sizeH _ zV2.out) _ rfl) rfl ?_
            refine ⟨⟨Y, nodeL Z x, by rw [hYY.out, hV2.out, HR2.out, Option.isSome_map]; rfl, HY.out, nodeL_is _ _, fun y hy => ?_⟩, HS.out.below⟩
            rw [HR2.out] at hy
            cases hRR : R' with
            | none => rw [hRR] at hy; cases hy
            | some z =>
              rw [hRR] at hy
              obtain ⟨rfl, rfl⟩ := HYZ.out z hRR
              cases hy
              exact ⟨rfl, rfl⟩
          · refine wpFk_call rfl (by rfl) (fun K hK => ?_)
            go_simp
            obtain ⟨w5, s5, hr5, hb5, hz5⟩ := made_writeD wx X zX.out oX.out
            have HR5 := Lib.hid hr5
            have HB5 := Lib.hid hb5
            clear hr5 hb5 hz5
            replace HS := Lib.hid (HS.out.alloc HS.out.size (.cells (nums .u8 (List.replicate 32 0)) 30))
            refine hK _ _ HS.out ?_
            clear hK K
            refine wpFk_call rfl (by rfl) (fun K hK => ?_)
            go_simp
            go_at_call 26
            refine (S1.out _).mono ?_
            rintro e w' ⟨rfl, rfl⟩
            refine hK _ _ HS.out ?_
            clear hK K
            refine wpFk_get rfl (by rfl) (fun K hK => ?_)
            refine ⟨?_, fun w' hS' => ?_, ?_⟩
            rotate_left
            · go_simp
              try (with_reducible rfl)
            try go_simp
            refine hK _ ?_
            clear hK K
            refine wpFk_call rfl (by rfl) (fun K hK => ?_)
            go_simp
            replace HS : Hid (Below wx.heap.size wx w5) := HB5
            clear s5
            refine hK _ _ HS.out ?_
            clear hK K
            refine wpFk_done ?_
            refine HQ.out _ _ ?_
            have HC5 := Lib.hid (HX.out.add HB5.out wx.heap.size X HR5.out (Nat.le_refl _))
            have s4 := HC5.out.o.read zC.out
            clear HS HQ HB5 HR5
            go_upto_region 13 with (go_at_call 21; (with_reducible refine (X1.out _ HC5.out.below).mono ?_); rintro e w6 ⟨⟨Y, Z, rfl, hy, hz, hyz⟩, hb⟩; obtain ⟨YY, hYY⟩ : ∃ V, Hid (V = nums .u8 Y) := ⟨_, Lib.hid rfl⟩; obtain ⟨ZZ, hZZ⟩ : ∃ V, Hid (V = nums .u8 Z) := ⟨_, Lib.hid rfl⟩; rw [← hYY.out, ← hZZ.out]; have HY := Lib.hid hy; have HZ := Lib.hid hz; have HYZ := Lib.hid hyz; clear hy hz hyz; have zY : Hid (YY.size = 32) := Lib.hid (by rw [hYY.out, nums_size]; exact HY.out.1); have oY : Hid (YY.all (·.oneCell') = true) := Lib.hid (by rw [hYY.out]; exact nums_one _ _); have zZ : Hid (ZZ.size = 32) := Lib.hid (by rw [hZZ.out, nums_size]; exact HZ.out.1); have oZ : Hid (ZZ.all (·.oneCell') = true) := Lib.hid (by rw [hZZ.out]; exact nums_one _ _); have HC6 := Lib.hid (HC5.out.next hb); obtain ⟨w7, w8, s7, s8, hr7, hr8, hb8, hz8⟩ := made_two w6 YY ZZ zY.out oY.out zZ.out oZ.out; have HC8 := Lib.hid (HC6.out.add hb8 w6.heap.size YY hr7 (Nat.le_refl _)); have HR8 := Lib.hid hr8; have HB8 := Lib.hid hb8; clear hr7 hr8 hb8 hz8 hb s4)
            have HX8 : Hid (SyR w C [(w6.heap.size + 1, ZZ), (w6.heap.size, YY), (wx.heap.size, X)] w8) := Lib.hid (HC6.out.add HB8.out w6.heap.size YY (HC8.out.ex (w6.heap.size, YY) (by simp)).1 (Nat.le_refl _) |>.more (w6.heap.size + 1) ZZ HR8.out (by have := HC6.out.size; omega))
            clear s7 s8 HC5 HC6 HC8 HR8 HB8 HX
            obtain ⟨V2, hV2⟩ : ∃ V, Hid (V = nums .u8 (nodeL Z x)) := ⟨_, Lib.hid rfl⟩
            have zV2 : Hid (V2.size = 32) := Lib.hid (by rw [hV2.out, nums_size]; exact (nodeL_is _ _).1)
            have oV2 : Hid (V2.all (·.oneCell') = true) := Lib.hid (by rw [hV2.out]; exact nums_one _ _)
            have NA : Hid (∀ W, Calls Tryd.prog 31 #[.agg ZZ, .agg X] W fun ev w' => ev = .returned (.agg V2) ∧ Below W.heap.size W w') := Lib.hid (fun W => by rw [hZZ.out, hX.out, hV2.out]; exact refNode_any _ _ HZ.out.1 HX32.out.1 W)
            refine wp_region_fk (SyR w C [(w6.heap.size + 1, ZZ), (w6.heap.size, YY), (wx.heap.size, X)]) (.get 0 (.get 1 (.get 2 (.get 4 (.call 3 (.call 5 (.call 6 (.get 7 .done)))))))) (by kernel_rfl) rfl (by kernel_rfl) (by kernel_rfl) (by intro c a d v w h; cases d <;> exact h) HX8.out.drew (fun Q' hQ => ?_)
            have HS := Lib.hid HX8.out.drew
            have HQ := Lib.hid hQ
            clear hQ
            refine wpFk_get rfl (by rfl) (fun K hK => ?_)
            refine ⟨_, fun w' hS' => get_load rfl rfl ((hS'.ex (w6.heap.size, YY) (by simp)).1.read zY.out), ?_⟩
            try go_simp
            refine hK _ ?_
            clear hK K
            refine wpFk_get rfl (by rfl) (fun K hK => ?_)
            refine ⟨_, fun w' hS' => get_load rfl rfl ((hS'.ex (w6.heap.size + 1, ZZ) (by simp)).1.read zZ.out), ?_⟩
            try go_simp
            refine hK _ ?_
            clear hK K
            refine wpFk_get rfl (by rfl) (fun K hK => ?_)
            refine ⟨_, fun w' hS' => get_load rfl rfl ((hS'.ex (wx.heap.size, X) (by simp)).1.read zX.out), ?_⟩
            try go_simp
            refine hK _ ?_
            clear hK K
            refine wpFk_get rfl (by rfl) (fun K hK => ?_)
            refine ⟨?_, fun w' hS' => ?_, ?_⟩
            rotate_left
            · go_simp
              try (with_reducible rfl)
            try go_simp
            refine hK _ ?_
            clear hK K
            refine wpFk_call rfl (by rfl) (fun K hK => ?_)
            go_simp
            go_at_call 31
            refine (NA.out _).mono ?_
            rintro e w2x ⟨rfl, hb⟩
            replace HS := Lib.hid (HS.out.next hb)
            clear hb
            refine hK _ _ HS.out ?_
            clear hK K
            refine wpFk_call rfl (by rfl) (fun K hK => ?_)
            obtain ⟨P1, hP1, hR1⟩ := HS.out.r1
            have s6 := hR1.write hP1 zY.out oY.out
            go_simp
            have HV1 := Lib.hid (hR1.whole YY)
            replace HS := Lib.hid (HS.out.put1 YY zY.out)
            clear s6 hR1 hP1
            refine hK _ _ HS.out ?_
            clear hK K
            refine wpFk_call rfl (by rfl) (fun K hK => ?_)
            obtain ⟨P2, hP2, hR2⟩ := HS.out.r2
            have s6 := hR2.write hP2 zV2.out oV2.out
            go_simp
            have HV2 := Lib.hid (hR2.whole V2)
            replace HV1 := Lib.hid (HV1.out.wfar (g' := w.heap.size + 2) (by omega) V2)
            replace HS := Lib.hid (HS.out.put2 V2 zV2.out)
            clear s6 hR2 hP2
            refine hK _ _ HS.out ?_
            clear hK K
            refine wpFk_get rfl (by rfl) (fun K hK => ?_)
            refine ⟨?_, fun w' hS' => ?_, ?_⟩
            rotate_left
            · go_simp
              try (with_reducible rfl)
            try go_simp
            refine hK _ ?_
            clear hK K
            refine wpFk_done ?_
            refine HQ.out _ _ ?_
            go_wp2
            refine bodyPost_ret (results_row3 rfl _ _ (w.heap.size + 1) (w.heap.size + 2) 30 _ _ _ rfl rfl HV1.out HV2.out Tryd.underlying30 rfl (sizeH _ zY.out) (sizeH _ zV2.out) _ rfl) rfl ?_
            refine ⟨⟨Y, nodeL Z x, by rw [hYY.out, hV2.out, HR2.out, Option.isSome_map]; rfl, HY.out, nodeL_is _ _, fun y hy => ?_⟩, HS.out.below⟩
            rw [HR2.out] at hy
            cases hRR : R' with
            | none => rw [hRR] at hy; cases hy
            | some z =>
              rw [hRR] at hy
              obtain ⟨rfl, rfl⟩ := HYZ.out z hRR
              cases hy
              exact ⟨rfl, rfl⟩
        · have dl2 : ¬ ((m : Int) ≤ (k : Int)) := by omega
          have dl : decide ((m : Int) ≤ (k : Int)) = false := decide_eq_false dl2
          obtain ⟨R', hR'⟩ : ∃ R', Hid (R' = saysR older (m - k) (n - k) false (ps.take t).reverse) := ⟨_, Lib.hid rfl⟩
          have HR2 : Hid (R = R'.map (fun y => (nodeL x y.1, nodeL x y.2))) := Lib.hid (by rw [hR.out, hrev, saysR_right h1 (by rw [← hk.out]; exact hlt), ← hk.out, hR'.out])
          have X1 : Hid (∀ W, Below w.heap.size w W → Calls Tryd.prog 21 #[.int .i64 ((m : Int) - (k : Int)), .int .i64 ((n : Int) - (k : Int)), .bool false, .agg C, .slice (some ad) t c] W (GivesT W R')) := Lib.hid fun W hW => by
            have := ih (ps.take t) older (m - k) (n - k) false (some ad) c W (by rw [HLn]; have := ht.out; omega) HO.out (by omega) (by omega) (by omega) (hashes_take HP.out t) ((HL.take HA.out t).from hW) (by rw [HLn]; exact e8) hcm
            rw [HLn, ← hC.out, ← hR'.out] at this
            rwa [show (((m - k : Nat)) : Int) = (m : Int) - (k : Int) by omega, show (((n - k : Nat)) : Int) = (n : Int) - (k : Int) by omega] at this
          clear ih HLn hrev
          go_enter Tryd.func21, Tryd.ntmps21
          go_upto_region 1 with fail
          refine world_gen (fun W => SyR w C [] W) H0.out (fun wx HX => ?_)
          have HX := Lib.hid HX
          go_upto_region 9 with fail
          refine wp_region_fk (Below wx.heap.size wx) (.get 0 (.get 2 (.get 3 (.get 4 (.get 5 (.get 6 (.get 7 (.fork 1 8 (.call 8 (.get 9 (.call 10 .done))) (.call 1 (.get 9 (.call 10 .done))))))))))) (by kernel_rfl) rfl (by kernel_rfl) (by kernel_rfl) (by intro c a d v w h; cases d <;> exact h) ((Below.refl wx.heap.size wx).drew) (fun Q' hQ => ?_)
          have HS := Lib.hid ((Below.refl wx.heap.size wx).drew)
          have HQ := Lib.hid hQ
          clear hQ
          refine wpFk_get rfl (by rfl) (fun K hK => ?_)
          refine ⟨?_, fun w' hS' => ?_, ?_⟩
          rotate_left
          · go_simp
            try (with_reducible rfl)
          try go_simp
          refine hK _ ?_
          clear hK K
          refine wpFk_get rfl (by rfl) (fun K hK => ?_)
          refine ⟨?_, fun w' hS' => ?_, ?_⟩
          rotate_left
          · go_simp
            try (with_reducible rfl)
          try go_simp
          refine hK _ ?_
          clear hK K
          refine wpFk_get rfl (by rfl) (fun K hK => ?_)
          refine ⟨?_, fun w' hS' => ?_, ?_⟩
          rotate_left
          · go_simp
            try (with_reducible rfl)
          try go_simp
          refine hK _ ?_
          clear hK K
          refine wpFk_get rfl (by rfl) (fun K hK => ?_)
          refine ⟨?_, fun w' hS' => ?_, ?_⟩
          rotate_left
          · go_simp
            try (with_reducible rfl)
          try go_simp
          refine hK _ ?_
          clear hK K
          refine wpFk_get rfl (by rfl) (fun K hK => ?_)
          refine ⟨?_, fun w' hS' => ?_, ?_⟩
          rotate_left
          · go_simp
            try (with_reducible rfl)
          try go_simp
          refine hK _ ?_
          clear hK K
          refine wpFk_get rfl (by rfl) (fun K hK => ?_)
          refine ⟨?_, fun w' hS' => ?_, ?_⟩
          rotate_left
          · go_simp
            try (with_reducible rfl)
          try go_simp
          refine hK _ ?_
          clear hK K
          refine wpFk_get rfl (by rfl) (fun K hK => ?_)
          refine ⟨_, fun w' hS' => get_load rfl rfl (RD.out _ (below_new HX.out.below hS')), ?_⟩
          try go_simp
          refine hK _ ?_
          clear hK K
          refine wpFk_fork ?_ ?_
          · refine wpFk_call rfl (by rfl) (fun K hK => ?_)
            go_simp
            go_at_call 26
            refine (S1.out _).mono ?_
            rintro e w' ⟨rfl, rfl⟩
            refine hK _ _ HS.out ?_
            clear hK K
            refine wpFk_call rfl (by rfl) (fun K hK => ?_)
            go_simp
            obtain ⟨w5, s5, hr5, hb5, hz5⟩ := made_writeD wx X zX.out oX.out
            have HR5 := Lib.hid hr5
            have HB5 := Lib.hid hb5
            clear hr5 hb5 hz5
            replace HS := Lib.hid (HS.out.alloc HS.out.size (.cells (nums .u8 (List.replicate 32 0)) 30))
            refine hK _ _ HS.out ?_
            clear hK K
            refine wpFk_get rfl (by rfl) (fun K hK => ?_)
            refine ⟨?_, fun w' hS' => ?_, ?_⟩
            rotate_left
            · go_simp
              try (with_reducible rfl)
            try go_simp
            refine hK _ ?_
            clear hK K
            refine wpFk_call rfl (by rfl) (fun K hK => ?_)
            go_simp
            replace HS : Hid (Below wx.heap.size wx w5) := HB5
            clear s5
            refine hK _ _ HS.out ?_
            clear hK K
            refine wpFk_done ?_
            refine HQ.out _ _ ?_
            have HC5 := Lib.hid (HX.out.add HB5.out wx.heap.size X HR5.out (Nat.le_refl _))
            have s4 := HC5.out.o.read zC.out
            clear HS HQ HB5 HR5
            go_upto_region 15 with (go_at_call 21; (with_reducible refine (X1.out _ HC5.out.below).mono ?_); rintro e w6 ⟨⟨Y, Z, rfl, hy, hz, hyz⟩, hb⟩; obtain ⟨YY, hYY⟩ : ∃ V, Hid (V = nums .u8 Y) := ⟨_, Lib.hid rfl⟩; obtain ⟨ZZ, hZZ⟩ : ∃ V, Hid (V = nums .u8 Z) := ⟨_, Lib.hid rfl⟩; rw [← hYY.out, ← hZZ.out]; have HY := Lib.hid hy; have HZ := Lib.hid hz; have HYZ := Lib.hid hyz; clear hy hz hyz; have zY : Hid (YY.size = 32) := Lib.hid (by rw [hYY.out, nums_size]; exact HY.out.1); have oY : Hid (YY.all (·.oneCell') = true) := Lib.hid (by rw [hYY.out]; exact nums_one _ _); have zZ : Hid (ZZ.size = 32) := Lib.hid (by rw [hZZ.out, nums_size]; exact HZ.out.1); have oZ : Hid (ZZ.all (·.oneCell') = true) := Lib.hid (by rw [hZZ.out]; exact nums_one _ _); have HC6 := Lib.hid (HC5.out.next hb); obtain ⟨w7, w8, s7, s8, hr7, hr8, hb8, hz8⟩ := made_two w6 YY ZZ zY.out oY.out zZ.out oZ.out; have HC8 := Lib.hid (HC6.out.add hb8 w6.heap.size YY hr7 (Nat.le_refl _)); have HR8 := Lib.hid hr8; have HB8 := Lib.hid hb8; clear hr7 hr8 hb8 hz8 hb s4)
            have HX8 : Hid (SyR w C [(w6.heap.size + 1, ZZ), (w6.heap.size, YY), (wx.heap.size, X)] w8) := Lib.hid (HC6.out.add HB8.out w6.heap.size YY (HC8.out.ex (w6.heap.size, YY) (by simp)).1 (Nat.le_refl _) |>.more (w6.heap.size + 1) ZZ HR8.out (by have := HC6.out.size; omega))
            clear s7 s8 HC5 HC6 HC8 HR8 HB8 HX
            obtain ⟨V1, hV1⟩ : ∃ V, Hid (V = nums .u8 (nodeL x Y)) := ⟨_, Lib.hid rfl⟩
            have zV1 : Hid (V1.size = 32) := Lib.hid (by rw [hV1.out, nums_size]; exact (nodeL_is _ _).1)
            have oV1 : Hid (V1.all (·.oneCell') = true) := Lib.hid (by rw [hV1.out]; exact nums_one _ _)
            have NA : Hid (∀ W, Calls Tryd.prog 31 #[.agg X, .agg YY] W fun ev w' => ev = .returned (.agg V1) ∧ Below W.heap.size W w') := Lib.hid (fun W => by rw [hX.out, hYY.out, hV1.out]; exact refNode_any _ _ HX32.out.1 HY.out.1 W)
            obtain ⟨V2, hV2⟩ : ∃ V, Hid (V = nums .u8 (nodeL x Z)) := ⟨_, Lib.hid rfl⟩
            have zV2 : Hid (V2.size = 32) := Lib.hid (by rw [hV2.out, nums_size]; exact (nodeL_is _ _).1)
            have oV2 : Hid (V2.all (·.oneCell') = true) := Lib.hid (by rw [hV2.out]; exact nums_one _ _)
            have NB : Hid (∀ W, Calls Tryd.prog 31 #[.agg X, .agg ZZ] W fun ev w' => ev = .returned (.agg V2) ∧ Below W.heap.size W w') := Lib.hid (fun W => by rw [hX.out, hZZ.out, hV2.out]; exact refNode_any _ _ HX32.out.1 HZ.out.1 W)
            refine wp_region_fk (SyR w C [(w6.heap.size + 1, ZZ), (w6.heap.size, YY), (wx.heap.size, X)]) (.get 0 (.get 1 (.get 3 (.get 4 (.get 6 (.call 2 (.call 5 (.call 7 (.call 8 (.get 9 .done)))))))))) (by kernel_rfl) rfl (by kernel_rfl) (by kernel_rfl) (by intro c a d v w h; cases d <;> exact h) HX8.out.drew (fun Q' hQ => ?_)
            have HS := Lib.hid HX8.out.drew
            have HQ := Lib.hid hQ
            clear hQ
            refine wpFk_get rfl (by rfl) (fun K hK => ?_)
            refine ⟨_, fun w' hS' => get_load rfl rfl ((hS'.ex (wx.heap.size, X) (by simp)).1.read zX.out), ?_⟩
            try go_simp
            refine hK _ ?_
            clear hK K
            refine wpFk_get rfl (by rfl) (fun K hK => ?_)
            refine ⟨_, fun w' hS' => get_load rfl rfl ((hS'.ex (w6.heap.size, YY) (by simp)).1.read zY.out), ?_⟩
            try go_simp
            refine hK _ ?_
            clear hK K
            refine wpFk_get rfl (by rfl) (fun K hK => ?_)
            refine ⟨_, fun w' hS' => get_load rfl rfl ((hS'.ex (wx.heap.size, X) (by simp)).1.read zX.out), ?_⟩
            try go_simp
            refine hK _ ?_
            clear hK K
            refine wpFk_get rfl (by rfl) (fun K hK => ?_)
            refine ⟨_, fun w' hS' => get_load rfl rfl ((hS'.ex (w6.heap.size + 1, ZZ) (by simp)).1.read zZ.out), ?_⟩
            try go_simp
            refine hK _ ?_
            clear hK K
            refine wpFk_get rfl (by rfl) (fun K hK => ?_)
            refine ⟨?_, fun w' hS' => ?_, ?_⟩
            rotate_left
            · go_simp
              try (with_reducible rfl)
            try go_simp
            refine hK _ ?_
            clear hK K
            refine wpFk_call rfl (by rfl) (fun K hK => ?_)
            go_simp
            go_at_call 31
            refine (NA.out _).mono ?_
            rintro e w2x ⟨rfl, hb⟩
            replace HS := Lib.hid (HS.out.next hb)
            clear hb
            refine hK _ _ HS.out ?_
            clear hK K
            refine wpFk_call rfl (by rfl) (fun K hK => ?_)
            go_simp
            go_at_call 31
            refine (NB.out _).mono ?_
            rintro e w2x ⟨rfl, hb⟩
            replace HS := Lib.hid (HS.out.next hb)
            clear hb
            refine hK _ _ HS.out ?_
            clear hK K
            refine wpFk_call rfl (by rfl) (fun K hK => ?_)
            obtain ⟨P1, hP1, hR1⟩ := HS.out.r1
            have s6 := hR1.write hP1 zV1.out oV1.out
            go_simp
            have HV1 := Lib.hid (hR1.whole V1)
            replace HS := Lib.hid (HS.out.put1 V1 zV1.out)
            clear s6 hR1 hP1
            refine hK _ _ HS.out ?_
            clear hK K
            refine wpFk_call rfl (by rfl) (fun K hK => ?_)
            obtain ⟨P2, hP2, hR2⟩ := HS.out.r2
            have s6 := hR2.write hP2 zV2.out oV2.out
            go_simp
            have HV2 := Lib.hid (hR2.whole V2)
            replace HV1 := Lib.hid (HV1.out.wfar (g' := w.heap.size + 2) (by omega) V2)
            replace HS := Lib.hid (HS.out.put2 V2 zV2.out)
            clear s6 hR2 hP2
            refine hK _ _ HS.out ?_
            clear hK K
            refine wpFk_get rfl (by rfl) (fun K hK => ?_)
            refine ⟨?_, fun w' hS' => ?_, ?_⟩
            rotate_left
            · go_simp
              try (with_reducible rfl)
            try go_simp
            refine hK _ ?_
            clear hK K
            refine wpFk_done ?_
            refine HQ.out _ _ ?_
            go_wp2
            refine bodyPost_ret (results_row3 rfl _ _ (w.heap.size + 1) (w.heap.size + 2) 30 _ _ _ rfl rfl HV1.out HV2.out Tryd.underlying30 rfl (sizeH _ zV1.out) (sizeH _ zV2.out) _ rfl) rfl ?_
            refine ⟨⟨nodeL x Y, nodeL x Z, by rw [hV1.out, hV2.out, HR2.out, Option.isSome_map]; rfl, nodeL_is _ _, nodeL_is _ _, fun y hy => ?_⟩, HS.out.below⟩
            rw [HR2.out] at hy
            cases hRR : R' with
            | none => rw [hRR] at hy; cases hy
            | some z =>
              rw [hRR] at hy
              obtain ⟨rfl, rfl⟩ := HYZ.out z hRR
              cases hy
              exact ⟨rfl, rfl⟩
          · refine wpFk_call rfl (by rfl) (fun K hK => ?_)
            go_simp
            obtain ⟨w5, s5, hr5, hb5, hz5⟩ := made_writeD wx X zX.out oX.out
            have HR5 := Lib.hid hr5
            have HB5 := Lib.hid hb5
            clear hr5 hb5 hz5
            replace HS := Lib.hid (HS.out.alloc HS.out.size (.cells (nums .u8 (List.replicate 32 0)) 30))
            refine hK _ _ HS.out ?_
            clear hK K
            refine wpFk_call rfl (by rfl) (fun K hK => ?_)
            go_simp
            go_at_call 26
            refine (S1.out _).mono ?_
            rintro e w' ⟨rfl, rfl⟩
            refine hK _ _ HS.out ?_
            clear hK K
            refine wpFk_get rfl (by rfl) (fun K hK => ?_)
            refine ⟨?_, fun w' hS' => ?_, ?_⟩
            rotate_left
            · go_simp
              try (with_reducible rfl)
            try go_simp
            refine hK _ ?_
            clear hK K
            refine wpFk_call rfl (by rfl) (fun K hK => ?_)
            go_simp
            replace HS : Hid (Below wx.heap.size wx w5) := HB5
            clear s5
            refine hK _ _ HS.out ?_
            clear hK K
            refine wpFk_done ?_
            refine HQ.out _ _ ?_
            have HC5 := Lib.hid (HX.out.add HB5.out wx.heap.size X HR5.out (Nat.le_refl _))
            have s4 := HC5.out.o.read zC.out
            clear HS HQ HB5 HR5
            go_upto_region 15 with (go_at_call 21; (with_reducible refine (X1.out _ HC5.out.below).mono ?_); rintro e w6 ⟨⟨Y, Z, rfl, hy, hz, hyz⟩, hb⟩; obtain ⟨YY, hYY⟩ : ∃ V, Hid (V = nums .u8 Y) := ⟨_, Lib.hid rfl⟩; obtain ⟨ZZ, hZZ⟩ : ∃ V, Hid (V = nums .u8 Z) := ⟨_, Lib.hid rfl⟩; rw [← hYY.out, ← hZZ.out]; have HY := Lib.hid hy; have HZ := Lib.hid hz; have HYZ := Lib.hid hyz; clear hy hz hyz; have zY : Hid (YY.size = 32) := Lib.hid (by rw [hYY.out, nums_size]; exact HY.out.1); have oY : Hid (YY.all (·.oneCell') = true) := Lib.hid (by rw [hYY.out]; exact nums_one _ _); have zZ : Hid (ZZ.size = 32) := Lib.hid (by rw [hZZ.out, nums_size]; exact HZ.out.1); have oZ : Hid (ZZ.all (·.oneCell') = true) := Lib.hid (by rw [hZZ.out]; exact nums_one _ _); have HC6 := Lib.hid (HC5.out.next hb); obtain ⟨w7, w8, s7, s8, hr7, hr8, hb8, hz8⟩ := made_two w6 YY ZZ zY.out oY.out zZ.out oZ.out; have HC8 := Lib.hid (HC6.out.add hb8 w6.heap.size YY hr7 (Nat.le_refl _)); have HR8 := Lib.hid hr8; have HB8 := Lib.hid hb8; clear hr7 hr8 hb8 hz8 hb s4)
            have HX8 : Hid (SyR w C [(w6.heap.size + 1, ZZ), (w6.heap.size, YY), (wx.heap.size, X)] w8) := Lib.hid (HC6.out.add HB8.out w6.heap.size YY (HC8.out.ex (w6.heap.size, YY) (by simp)).1 (Nat.le_refl _) |>.more (w6.heap.size + 1) ZZ HR8.out (by have := HC6.out.size; omega))
            clear s7 s8 HC5 HC6 HC8 HR8 HB8 HX
            obtain ⟨V1, hV1⟩ : ∃ V, Hid (V = nums .u8 (nodeL x Y)) := ⟨_, Lib.hid rfl⟩
            have zV1 : Hid (V1.size = 32) := Lib.hid (by rw [hV1.out, nums_size]; exact (nodeL_is _ _).1)
            have oV1 : Hid (V1.all (·.oneCell') = true) := Lib.hid (by rw [hV1.out]; exact nums_one _ _)
            have NA : Hid (∀ W, Calls Tryd.prog 31 #[.agg X, .agg YY] W fun ev w' => ev = .returned (.agg V1) ∧ Below W.heap.size W w') := Lib.hid (fun W => by rw [hX.out, hYY.out, hV1.out]; exact refNode_any _ _ HX32.out.1 HY.out.1 W)
            obtain ⟨V2, hV2⟩ : ∃ V, Hid (V = nums .u8 (nodeL x Z)) := ⟨_, Lib.hid rfl⟩
            have zV2 : Hid (V2.size = 32) := Lib.hid (by rw [hV2.out, nums_size]; exact (nodeL_is _ _).1)
            have oV2 : Hid (V2.all (·.oneCell') = true) := Lib.hid (by rw [hV2.out]; exact nums_one _ _)
            have NB : Hid (∀ W, Calls Tryd.prog 31 #[.agg X, .agg ZZ] W fun ev w' => ev = .returned (.agg V2) ∧ Below W.heap.size W w') := Lib.hid (fun W => by rw [hX.out, hZZ.out, hV2.out]; exact refNode_any _ _ HX32.out.1 HZ.out.1 W)
            refine wp_region_fk (SyR w C [(w6.heap.size + 1, ZZ), (w6.heap.size, YY), (wx.heap.size, X)]) (.get 0 (.get 1 (.get 3 (.get 4 (.get 6 (.call 2 (.call 5 (.call 7 (.call 8 (.get 9 .done)))))))))) (by kernel_rfl) rfl (by kernel_rfl) (by kernel_rfl) (by intro c a d v w h; cases d <;> exact h) HX8.out.drew (fun Q' hQ => ?_)
            have HS := Lib.hid HX8.out.drew
            have HQ := Lib.hid hQ
            clear hQ
            refine wpFk_get rfl (by rfl) (fun K hK => ?_)
            refine ⟨_, fun w' hS' => get_load rfl rfl ((hS'.ex (wx.heap.size, X) (by simp)).1.read zX.out), ?_⟩
            try go_simp
            refine hK _ ?_
            clear hK K
            refine wpFk_get rfl (by rfl) (fun K hK => ?_)
            refine ⟨_, fun w' hS' => get_load rfl rfl ((hS'.ex (w6.heap.size, YY) (by simp)).1.read zY.out), ?_⟩
            try go_simp
            refine hK _ ?_
            clear hK K
            refine wpFk_get rfl (by rfl) (fun K hK => ?_)
            refine ⟨_, fun w' hS' => get_load rfl rfl ((hS'.ex (wx.heap.size, X) (by simp)).1.read zX.out), ?_⟩
            try go_simp
            refine hK _ ?_
            clear hK K
            refine wpFk_get rfl (by rfl) (fun K hK => ?_)
            refine ⟨_, fun w' hS' => get_load rfl rfl ((hS'.ex (w6.heap.size + 1, ZZ) (by simp)).1.read zZ.out), ?_⟩
            try go_simp
            refine hK _ ?_
            clear hK K
            refine wpFk_get rfl (by rfl) (fun K hK => ?_)
            refine ⟨?_, fun w' hS' => ?_, ?_⟩
            rotate_left
            · go_simp
              try (with_reducible rfl)
            try go_simp
            refine hK _ ?_
            clear hK K
            refine wpFk_call rfl (by rfl) (fun K hK => ?_)
            go_simp
            go_at_call 31
            refine (NA.out _).mono ?_
            rintro e w2x ⟨rfl, hb⟩
            replace HS := Lib.hid (HS.out.next hb)
            clear hb
            refine hK _ _ HS.out ?_
            clear hK K
            refine wpFk_call rfl (by rfl) (fun K hK => ?_)
            go_simp
            go_at_call 31
            refine (NB.out _).mono ?_
            rintro e w2x ⟨rfl, hb⟩
            replace HS := Lib.hid (HS.out.next hb)
            clear hb
            refine hK _ _ HS.out ?_
            clear hK K
            refine wpFk_call rfl (by rfl) (fun K hK => ?_)
            obtain ⟨P1, hP1, hR1⟩ := HS.out.r1
            have s6 := hR1.write hP1 zV1.out oV1.out
            go_simp
            have HV1 := Lib.hid (hR1.whole V1)
            replace HS := Lib.hid (HS.out.put1 V1 zV1.out)
            clear s6 hR1 hP1
            refine hK _ _ HS.out ?_
            clear hK K
            refine wpFk_call rfl (by rfl) (fun K hK => ?_)
            obtain ⟨P2, hP2, hR2⟩ := HS.out.r2
            have s6 := hR2.write hP2 zV2.out oV2.out
            go_simp
            have HV2 := Lib.hid (hR2.whole V2)
            replace HV1 := Lib.hid (HV1.out.wfar (g' := w.heap.size + 2) (by omega) V2)
            replace HS := Lib.hid (HS.out.put2 V2 zV2.out)
            clear s6 hR2 hP2
            refine hK _ _ HS.out ?_
            clear hK K
            refine wpFk_get rfl (by rfl) (fun K hK => ?_)
            refine ⟨?_, fun w' hS' => ?_, ?_⟩
            rotate_left
            · go_simp
              try (with_reducible rfl)
            try go_simp
            refine hK _ ?_
            clear hK K
            refine wpFk_done ?_
            refine HQ.out _ _ ?_
            go_wp2
            refine bodyPost_ret (results_row3 rfl _ _ (w.heap.size + 1) (w.heap.size + 2) 30 _ _ _ rfl rfl HV1.out HV2.out Tryd.underlying30 rfl (sizeH _ zV1.out) (sizeH _ zV2.out) _ rfl) rfl ?_
            refine ⟨⟨nodeL x Y, nodeL x Z, by rw [hV1.out, hV2.out, HR2.out, Option.isSome_map]; rfl, nodeL_is _ _, nodeL_is _ _, fun y hy => ?_⟩, HS.out.below⟩
            rw [HR2.out] at hy
            cases hRR : R' with
            | none => rw [hRR] at hy; cases hy
            | some z =>
              rw [hRR] at hy
              obtain ⟨rfl, rfl⟩ := HYZ.out z hRR
              cases hy
              exact ⟨rfl, rfl⟩
end Go.Proofs.YtkjgkeigfebcmaaDoor
