/-
  The functions that Check hands on (layer 7): what one answers of two hashes, whichever one it is; each that is made of another one. Conditions: the two tables as they were laid. What a call makes is new memory; nothing that was there changes.
-/
import Derived.Test.YtkjgkeigfebcmaaDoorProofMath
import Derived.Test.YtkjgkeigfebcmaaDoorTreeNode
import Derived.Test.YtkjgkeigfebcmaaDoorListMem
import Derived.Test.YtkjgkeigfebcmaaDoorShaAt
import Derived.Shelf.Abstract
namespace Go.Proofs.YtkjgkeigfebcmaaDoor
open Go.RowKit Go.Great
set_option linter.unusedVariables false
set_option maxRecDepth 100000

/-- A function value by which two blocks are captured. -/
def handV (f g1 g2 : Nat) : Value := .func (.func f) #[] #[.pointer (some ⟨g1, 0, none⟩), .pointer (some ⟨g2, 0, none⟩)]
/-- What it answers of two hashes, in whatever world that has what is there. -/
structure Hands (w : World) (f g1 g2 : Nat) (F : List Int → List Int → Bool) : Prop where
  enters : ∀ (args : Array Value) (W : World), (callFunc f args).run Tryd.prog W = .ok (.enter f args) W
  call : ∀ W, Below w.heap.size w W → ∀ a b : List Int, (a.length = 32 ∧ bytes a) → (b.length = 32 ∧ bytes b) →
    Calls Tryd.prog f #[.agg (nums .u8 a), .agg (nums .u8 b), .pointer (some ⟨g1, 0, none⟩), .pointer (some ⟨g2, 0, none⟩)] W fun e w' => e = .returned (.bool (F a b)) ∧ Below W.heap.size W w'
theorem Hands.next {w w1 : World} {f g1 g2 : Nat} {F : List Int → List Int → Bool} (h : Hands w f g1 g2 F) (hb : Below w.heap.size w w1) : Hands w1 f g1 g2 F :=
  ⟨h.enters, fun W hW => h.call W (below_new hb hW)⟩
/-- Two hashes that a call boxes. -/
structure TwoH (w wr : World) (C D : Array Value) : Prop where
  a : Row wr w.heap.size 30 C
  b : Row wr (w.heap.size + 1) 30 D
  below : Below w.heap.size w wr
theorem TwoH.next {w wr w1 : World} {C D : Array Value} (h : TwoH w wr C D) (hb : Below wr.heap.size wr w1) : TwoH w w1 C D := ⟨h.a.next hb, h.b.next hb, below_new h.below hb⟩
theorem TwoH.start (w : World) (C D : Array Value) : TwoH w ((w.alloc (.cells C 30)).alloc (.cells D 30)) C D :=
  ⟨(Row.made _ _ _).alloc _, Row.made2 _ _ _ _, ((Below.refl _ _).alloc (Nat.le_refl _) _).alloc (by simp) _⟩
attribute [local go_sem ↓ high] read_at write_at eq_at neq_at
set_option maxHeartbeats 8000000 in
/-- Both are the two that are captured. -/
theorem holds1_hands (w : World) (g1 g2 : Nat) (o n : List Int) (ho : o.length = 32 ∧ bytes o) (hn : n.length = 32 ∧ bytes n) (h1 : Row w g1 30 (nums .u8 o)) (h2 : Row w g2 30 (nums .u8 n)) :
    Hands w 28 g1 g2 (fun a b => decide (a = o) && decide (b = n)) := by
  refine ⟨enters_of Tryd.func28 (by kernel_rfl) rfl, ?_⟩
  intro W hW a b ha hb
  obtain ⟨O, hO⟩ : ∃ O, Hid (O = nums .u8 o) := ⟨_, Lib.hid rfl⟩
  obtain ⟨N, hN⟩ : ∃ N, Hid (N = nums .u8 n) := ⟨_, Lib.hid rfl⟩
  obtain ⟨C, hC⟩ : ∃ C, Hid (C = nums .u8 a) := ⟨_, Lib.hid rfl⟩
  obtain ⟨D, hD⟩ : ∃ D, Hid (D = nums .u8 b) := ⟨_, Lib.hid rfl⟩
  have zO : Hid (O.size = 32) := Lib.hid (by rw [hO.out, nums_size]; exact ho.1)
  have zN : Hid (N.size = 32) := Lib.hid (by rw [hN.out, nums_size]; exact hn.1)
  have zC : Hid (C.size = 32) := Lib.hid (by rw [hC.out, nums_size]; exact ha.1)
  have zD : Hid (D.size = 32) := Lib.hid (by rw [hD.out, nums_size]; exact hb.1)
  have E1 : Hid (∀ W, (eqAt (.agg C) (.agg O)).run Tryd.prog W = .ok (.bool (decide (a = o))) W) := Lib.hid fun W => by
    rw [hC.out, hO.out]; exact eqAt_hash a o ha.1 ho.1 ha.2 ho.2 W
  have E2 : Hid (∀ W, (eqAt (.agg D) (.agg N)).run Tryd.prog W = .ok (.bool (decide (b = n))) W) := Lib.hid fun W => by
    rw [hD.out, hN.out]; exact eqAt_hash b n hb.1 hn.1 hb.2 hn.2 W
  have HC : Hid (∀ X, TwoH W X C D → Row X g1 30 O ∧ Row X g2 30 N) := Lib.hid fun X h => by
    rw [hO.out, hN.out]; exact ⟨h1.next (below_new hW h.below), h2.next (below_new hW h.below)⟩
  have H0 := Lib.hid (TwoH.start W C D)
  obtain ⟨b1, hb1⟩ : ∃ b1 : Bool, Hid (b1 = decide (a = o)) := ⟨_, Lib.hid rfl⟩
  obtain ⟨b2, hb2⟩ : ∃ b2 : Bool, Hid (b2 = decide (b = n)) := ⟨_, Lib.hid rfl⟩
  show Calls _ _ _ _ (fun e w' => e = .returned (.bool (decide (a = o) && decide (b = n))) ∧ Below W.heap.size W w')
  rw [← hC.out, ← hD.out, ← hb1.out, ← hb2.out]
  rw [← hb1.out] at E1
  rw [← hb2.out] at E2
  clear ha hb ho hn h1 h2 hW
  go_enter Tryd.func28, Tryd.ntmps28
  go_upto_region 1 with fail
  refine world_gen (fun X => TwoH W X C D) H0.out (fun X HX => ?_)
  have HX := Lib.hid HX
  have s1 := HX.out.a.read zC.out
  have s2 := HX.out.b.read zD.out
  have s3 := (HC.out _ HX.out).1.read zO.out
  have s4 := (HC.out _ HX.out).2.read zN.out
  have t1 := E1.out X
  have t2 := E2.out X
  cases hbb : b1 with
  | false =>
    rw [hbb] at t1
    go_wp2
    go_ret
    exact ⟨by rw [hbb]; rfl, HX.out.below⟩
  | true =>
    rw [hbb] at t1
    go_wp2
    go_ret
    exact ⟨by rw [hbb]; rfl, HX.out.below⟩
set_option maxHeartbeats 8000000 in
/-- The second one is put together with the last hash ahead. -/
theorem says1_hands (w : World) (hT : Tab w) (g1 g2 f k1 k2 : Nat) (F : List Int → List Int → Bool) (x : List Int) (hx : x.length = 32 ∧ bytes x) (h1 : Row w g1 50 #[handV f k1 k2]) (h2 : Row w g2 30 (nums .u8 x)) (hF : Hands w f k1 k2 F) :
    Hands w 35 g1 g2 (fun a b => F a (nodeL b x)) := by
  refine ⟨enters_of Tryd.func35 (by kernel_rfl) rfl, ?_⟩
  have hent := hF.enters
  intro W hW a b ha hb
  obtain ⟨L, hL⟩ : ∃ L, Hid (L = nums .u8 x) := ⟨_, Lib.hid rfl⟩
  obtain ⟨C, hC⟩ : ∃ C, Hid (C = nums .u8 a) := ⟨_, Lib.hid rfl⟩
  obtain ⟨D, hD⟩ : ∃ D, Hid (D = nums .u8 b) := ⟨_, Lib.hid rfl⟩
  have zL : Hid (L.size = 32) := Lib.hid (by rw [hL.out, nums_size]; exact hx.1)
  have zC : Hid (C.size = 32) := Lib.hid (by rw [hC.out, nums_size]; exact ha.1)
  have zD : Hid (D.size = 32) := Lib.hid (by rw [hD.out, nums_size]; exact hb.1)
  have HC : Hid (∀ X, Below W.heap.size W X → X.cell? ⟨g1, 0, none⟩ = some (.func (.func f) #[] #[.pointer (some ⟨k1, 0, none⟩), .pointer (some ⟨k2, 0, none⟩)]) ∧ Row X g2 30 L) := Lib.hid fun X h => by
    rw [hL.out]; exact ⟨(h1.next (below_new hW h)).cell 0, h2.next (below_new hW h)⟩
  have H0 := Lib.hid (TwoH.start W C D)
  obtain ⟨M, hM⟩ : ∃ M, Hid (M = nums .u8 (nodeL b x)) := ⟨_, Lib.hid rfl⟩
  obtain ⟨r, hr⟩ : ∃ r : Bool, Hid (r = F a (nodeL b x)) := ⟨_, Lib.hid rfl⟩
  have X1 : Hid (∀ Z, Below W.heap.size W Z → Calls Tryd.prog 15 #[.agg D, .agg L] Z fun e w' => e = .returned (.agg M) ∧ Below Z.heap.size Z w') := Lib.hid fun Z hZ => by
    rw [hD.out, hL.out, hM.out]; exact node_any _ _ hb.1 hx.1 Z (hT.next (below_new hW hZ))
  have X2 : Hid (∀ Z, Below W.heap.size W Z → Calls Tryd.prog f #[.agg C, .agg M, .pointer (some ⟨k1, 0, none⟩), .pointer (some ⟨k2, 0, none⟩)] Z fun e w' => e = .returned (.bool r) ∧ Below Z.heap.size Z w') := Lib.hid fun Z hZ => by
    rw [hC.out, hM.out, hr.out]; exact hF.call Z (below_new hW hZ) a (nodeL b x) ha (nodeL_is _ _)
  show Calls _ _ _ _ (fun e w' => e = .returned (.bool (F a (nodeL b x))) ∧ Below W.heap.size W w')
  rw [← hC.out, ← hD.out, ← hr.out]
  clear ha hb hx h1 h2 hW hF hT
  go_enter Tryd.func35, Tryd.ntmps35
  go_upto_region 1 with fail
  refine world_gen (fun X => TwoH W X C D) H0.out (fun X HX => ?_)
  have HX := Lib.hid HX
  refine wp_region_fk (Below X.heap.size X) (.get 0 (.get 1 (.get 2 (.get 3 (.call 4 (.call 5 (.get 6 .done))))))) (by kernel_rfl) rfl (by kernel_rfl) (by kernel_rfl) (by intro c a d v w h; cases d <;> exact h) (Below.refl X.heap.size X).drew (fun Q' hQ => ?_)
  have HS := Lib.hid (Below.refl X.heap.size X).drew
  have HQ := Lib.hid hQ
  clear hQ
  refine wpFk_get rfl (by rfl) (fun K hK => ?_)
  refine ⟨?_, fun w' hS' => ?_, ?_⟩
  rotate_left
  · have c1 := (HC.out _ (below_new HX.out.below hS')).1
    go_simp
    try (with_reducible rfl)
  try go_simp
  refine hK _ ?_
  clear hK K
  refine wpFk_get rfl (by rfl) (fun K hK => ?_)
  refine ⟨_, fun w' hS' => get_load rfl rfl ((HX.out.next hS').a.read zC.out), ?_⟩
  try go_simp
  refine hK _ ?_
  clear hK K
  refine wpFk_get rfl (by rfl) (fun K hK => ?_)
  refine ⟨_, fun w' hS' => get_load rfl rfl ((HX.out.next hS').b.read zD.out), ?_⟩
  try go_simp
  refine hK _ ?_
  clear hK K
  refine wpFk_get rfl (by rfl) (fun K hK => ?_)
  refine ⟨_, fun w' hS' => get_load rfl rfl ((HC.out _ (below_new HX.out.below hS')).2.read zL.out), ?_⟩
  try go_simp
  refine hK _ ?_
  clear hK K
  refine wpFk_call rfl (by rfl) (fun K hK => ?_)
  go_simp
  go_at_call 15
  refine (X1.out _ (below_new HX.out.below HS.out)).mono ?_
  rintro e w2x ⟨rfl, hb⟩
  replace HS := Lib.hid (below_new HS.out hb)
  clear hb
  refine hK _ _ HS.out ?_
  clear hK K
  refine wpFk_call rfl (by rfl) (fun K hK => ?_)
  go_simp
  with_reducible refine (X2.out _ (below_new HX.out.below HS.out)).mono ?_
  rintro e w2x ⟨rfl, hb⟩
  replace HS := Lib.hid (below_new HS.out hb)
  clear hb
  refine hK _ _ HS.out ?_
  clear hK K
  refine wpFk_get rfl (by rfl) (fun K hK => ?_)
  refine ⟨?_, fun w' hS' => ?_, ?_⟩
  rotate_left
  · go_simp
    try (with_reducible rfl)
  try go_simp
  refine hK _ ?_
  clear hK K
  refine wpFk_done ?_
  refine HQ.out _ _ ?_
  go_wp2
  go_ret
  exact ⟨rfl, below_new HX.out.below HS.out⟩
set_option maxHeartbeats 8000000 in
/-- The last hash is put ahead of both. -/
theorem says2_hands (w : World) (hT : Tab w) (g1 g2 f k1 k2 : Nat) (F : List Int → List Int → Bool) (x : List Int) (hx : x.length = 32 ∧ bytes x) (h1 : Row w g1 50 #[handV f k1 k2]) (h2 : Row w g2 30 (nums .u8 x)) (hF : Hands w f k1 k2 F) :
    Hands w 36 g1 g2 (fun a b => F (nodeL x a) (nodeL x b)) := by
  refine ⟨enters_of Tryd.func36 (by kernel_rfl) rfl, ?_⟩
  have hent := hF.enters
  intro W hW a b ha hb
  obtain ⟨L, hL⟩ : ∃ L, Hid (L = nums .u8 x) := ⟨_, Lib.hid rfl⟩
  obtain ⟨C, hC⟩ : ∃ C, Hid (C = nums .u8 a) := ⟨_, Lib.hid rfl⟩
  obtain ⟨D, hD⟩ : ∃ D, Hid (D = nums .u8 b) := ⟨_, Lib.hid rfl⟩
  have zL : Hid (L.size = 32) := Lib.hid (by rw [hL.out, nums_size]; exact hx.1)
  have zC : Hid (C.size = 32) := Lib.hid (by rw [hC.out, nums_size]; exact ha.1)
  have zD : Hid (D.size = 32) := Lib.hid (by rw [hD.out, nums_size]; exact hb.1)
  have HC : Hid (∀ X, Below W.heap.size W X → X.cell? ⟨g1, 0, none⟩ = some (.func (.func f) #[] #[.pointer (some ⟨k1, 0, none⟩), .pointer (some ⟨k2, 0, none⟩)]) ∧ Row X g2 30 L) := Lib.hid fun X h => by
    rw [hL.out]; exact ⟨(h1.next (below_new hW h)).cell 0, h2.next (below_new hW h)⟩
  have H0 := Lib.hid (TwoH.start W C D)
  obtain ⟨M, hM⟩ : ∃ M, Hid (M = nums .u8 (nodeL x b)) := ⟨_, Lib.hid rfl⟩
  obtain ⟨O, hO⟩ : ∃ O, Hid (O = nums .u8 (nodeL x a)) := ⟨_, Lib.hid rfl⟩
  obtain ⟨r, hr⟩ : ∃ r : Bool, Hid (r = F (nodeL x a) (nodeL x b)) := ⟨_, Lib.hid rfl⟩
  have X0 : Hid (∀ Z, Below W.heap.size W Z → Calls Tryd.prog 15 #[.agg L, .agg C] Z fun e w' => e = .returned (.agg O) ∧ Below Z.heap.size Z w') := Lib.hid fun Z hZ => by
    rw [hC.out, hL.out, hO.out]; exact node_any _ _ hx.1 ha.1 Z (hT.next (below_new hW hZ))
  have X1 : Hid (∀ Z, Below W.heap.size W Z → Calls Tryd.prog 15 #[.agg L, .agg D] Z fun e w' => e = .returned (.agg M) ∧ Below Z.heap.size Z w') := Lib.hid fun Z hZ => by
    rw [hD.out, hL.out, hM.out]; exact node_any _ _ hx.1 hb.1 Z (hT.next (below_new hW hZ))
  have X2 : Hid (∀ Z, Below W.heap.size W Z → Calls Tryd.prog f #[.agg O, .agg M, .pointer (some ⟨k1, 0, none⟩), .pointer (some ⟨k2, 0, none⟩)] Z fun e w' => e = .returned (.bool r) ∧ Below Z.heap.size Z w') := Lib.hid fun Z hZ => by
    rw [hO.out, hM.out, hr.out]; exact hF.call Z (below_new hW hZ) (nodeL x a) (nodeL x b) (nodeL_is _ _) (nodeL_is _ _)
  show Calls _ _ _ _ (fun e w' => e = .returned (.bool (F (nodeL x a) (nodeL x b))) ∧ Below W.heap.size W w')
  rw [← hC.out, ← hD.out, ← hr.out]
  clear ha hb hx h1 h2 hW hF hT
  go_enter Tryd.func36, Tryd.ntmps36
  go_upto_region 1 with fail
  refine world_gen (fun X => TwoH W X C D) H0.out (fun X HX => ?_)
  have HX := Lib.hid HX
  refine wp_region_fk (Below X.heap.size X) (.get 0 (.get 1 (.get 2 (.get 4 (.get 5 (.call 3 (.call 6 (.call 7 (.get 8 .done))))))))) (by kernel_rfl) rfl (by kernel_rfl) (by kernel_rfl) (by intro c a d v w h; cases d <;> exact h) (Below.refl X.heap.size X).drew (fun Q' hQ => ?_)
  have HS := Lib.hid (Below.refl X.heap.size X).drew
  have HQ := Lib.hid hQ
  clear hQ
  refine wpFk_get rfl (by rfl) (fun K hK => ?_)
  refine ⟨?_, fun w' hS' => ?_, ?_⟩
  rotate_left
  · have c1 := (HC.out _ (below_new HX.out.below hS')).1
    go_simp
    try (with_reducible rfl)
  try go_simp
  refine hK _ ?_
  clear hK K
  refine wpFk_get rfl (by rfl) (fun K hK => ?_)
  refine ⟨_, fun w' hS' => get_load rfl rfl ((HC.out _ (below_new HX.out.below hS')).2.read zL.out), ?_⟩
  try go_simp
  refine hK _ ?_
  clear hK K
  refine wpFk_get rfl (by rfl) (fun K hK => ?_)
  refine ⟨_, fun w' hS' => get_load rfl rfl ((HX.out.next hS').a.read zC.out), ?_⟩
  try go_simp
  refine hK _ ?_
  clear hK K
  refine wpFk_get rfl (by rfl) (fun K hK => ?_)
  refine ⟨_, fun w' hS' => get_load rfl rfl ((HC.out _ (below_new HX.out.below hS')).2.read zL.out), ?_⟩
  try go_simp
  refine hK _ ?_
  clear hK K
  refine wpFk_get rfl (by rfl) (fun K hK => ?_)
  refine ⟨_, fun w' hS' => get_load rfl rfl ((HX.out.next hS').b.read zD.out), ?_⟩
  try go_simp
  refine hK _ ?_
  clear hK K
  refine wpFk_call rfl (by rfl) (fun K hK => ?_)
  go_simp
  go_at_call 15
  refine (X0.out _ (below_new HX.out.below HS.out)).mono ?_
  rintro e w2x ⟨rfl, hb⟩
  replace HS := Lib.hid (below_new HS.out hb)
  clear hb
  refine hK _ _ HS.out ?_
  clear hK K
  refine wpFk_call rfl (by rfl) (fun K hK => ?_)
  go_simp
  go_at_call 15
  refine (X1.out _ (below_new HX.out.below HS.out)).mono ?_
  rintro e w2x ⟨rfl, hb⟩
  replace HS := Lib.hid (below_new HS.out hb)
  clear hb
  refine hK _ _ HS.out ?_
  clear hK K
  refine wpFk_call rfl (by rfl) (fun K hK => ?_)
  go_simp
  with_reducible refine (X2.out _ (below_new HX.out.below HS.out)).mono ?_
  rintro e w2x ⟨rfl, hb⟩
  replace HS := Lib.hid (below_new HS.out hb)
  clear hb
  refine hK _ _ HS.out ?_
  clear hK K
  refine wpFk_get rfl (by rfl) (fun K hK => ?_)
  refine ⟨?_, fun w' hS' => ?_, ?_⟩
  rotate_left
  · go_simp
    try (with_reducible rfl)
  try go_simp
  refine hK _ ?_
  clear hK K
  refine wpFk_done ?_
  refine HQ.out _ _ ?_
  go_wp2
  go_ret
  exact ⟨rfl, below_new HX.out.below HS.out⟩
end Go.Proofs.YtkjgkeigfebcmaaDoor
