/-
  The walk of the program's says (layer 7): it hands on the two roots that a proof says, to whichever function it was given. Conditions: the two tables as they were laid, a list of hashes in memory. What it makes is new memory; nothing that was there changes.
-/
import Derived.Test.YtkjgkeigfebcmaaDoorProofHand
import Derived.Test.YtkjgkeigfebcmaaDoorTreeSplit
import Derived.Laws.EntriesVeiled
namespace Go.Proofs.YtkjgkeigfebcmaaDoor
open Go.RowKit Go.Great
set_option linter.unusedVariables false
set_option maxRecDepth 100000

/-- What comes of a proof, by the function that it is handed to; false, where it says nothing. -/
def valS (older : List Int) (m n : Nat) (kn : Bool) (p : List (List Int)) (F : List Int → List Int → Bool) : Bool :=
  match saysR older m n kn p.reverse with
  | some y => F y.1 y.2
  | none => false
theorem valS_known {older : List Int} {m n : Nat} {p : List (List Int)} {F : List Int → List Int → Bool} (h : n ≤ m) : valS older m n true p F = if p.length = 0 then F older older else false := by
  unfold valS; rw [saysR_known h, List.length_reverse]
  by_cases h0 : p.length = 0
  · rw [if_pos h0, if_pos h0]
  · rw [if_neg h0, if_neg h0]
theorem valS_not {older : List Int} {m n : Nat} {p : List (List Int)} {F : List Int → List Int → Bool} (h : n ≤ m) : valS older m n false p F = if p.length = 1 then F (p.getD 0 []) (p.getD 0 []) else false := by
  unfold valS; rw [saysR_not h, List.length_reverse]
  by_cases h0 : p.length = 1
  · rw [if_pos h0, if_pos h0]
    cases p with
    | nil => simp at h0
    | cons x r => cases r with
      | nil => rfl
      | cons y r => simp at h0
  · rw [if_neg h0, if_neg h0]
theorem valS_none {older : List Int} {m n : Nat} {kn : Bool} {F : List Int → List Int → Bool} (h : ¬ n ≤ m) : valS older m n kn [] F = false := by
  unfold valS; rw [List.reverse_nil, saysR_none h]
theorem last_parts {p : List (List Int)} {t : Nat} (h : p.length = t + 1) : p.reverse = p.getD t [] :: (p.take t).reverse := by
  have e : p = p.take t ++ [p.getD t []] := by
    conv => lhs; rw [← List.take_append_drop t p]
    rw [List.getD_eq_getElem?_getD, List.getElem?_eq_getElem (by omega), List.drop_eq_getElem_cons (by omega), List.drop_of_length_le (by omega)]
    rfl
  conv => lhs; rw [e]
  rw [List.reverse_append]; rfl
theorem valS_left {older : List Int} {m n t : Nat} {kn : Bool} {p : List (List Int)} {F : List Int → List Int → Bool} (h : ¬ n ≤ m) (hk : m ≤ splitN n) (hp : p.length = t + 1) : valS older m (splitN n) kn (p.take t) (fun a b => F a (nodeL b (p.getD t []))) = valS older m n kn p F := by
  unfold valS; rw [last_parts hp, saysR_left h hk]
  cases saysR older m (splitN n) kn (p.take t).reverse <;> rfl
theorem valS_right {older : List Int} {m n t : Nat} {kn : Bool} {p : List (List Int)} {F : List Int → List Int → Bool} (h : ¬ n ≤ m) (hk : ¬ m ≤ splitN n) (hp : p.length = t + 1) : valS older (m - splitN n) (n - splitN n) false (p.take t) (fun a b => F (nodeL (p.getD t []) a) (nodeL (p.getD t []) b)) = valS older m n kn p F := by
  unfold valS; rw [last_parts hp, saysR_right h hk]
  cases saysR older (m - splitN n) (n - splitN n) false (p.take t).reverse <;> rfl
/-- What says holds. -/
structure SaysH (w wr : World) (O : Array Value) (A : Option Addr) (ps : List (List Int)) : Prop where
  o : Row wr w.heap.size 30 O
  hl : HW wr A ps
  tab : Tab wr
  below : Below w.heap.size w wr
theorem SaysH.next {w wr w1 : World} {O : Array Value} {A : Option Addr} {ps : List (List Int)} (h : SaysH w wr O A ps) (hb : Below wr.heap.size wr w1) : SaysH w w1 O A ps :=
  ⟨h.o.next hb, h.hl.next hb, h.tab.next hb, below_new h.below hb⟩
theorem SaysH.start {w : World} {O : Array Value} {A : Option Addr} {ps : List (List Int)} (hA : HL w w.heap.size A ps) (hT : Tab w) : SaysH w (w.alloc (.cells O 30)) O A ps :=
  have hb : Below w.heap.size w (w.alloc (.cells O 30)) := (Below.refl _ _).alloc (Nat.le_refl _) _
  ⟨Row.made _ _ _, HL.from hA hb, hT.next hb, hb⟩
theorem SaysH.take {w wr : World} {O : Array Value} {A : Option Addr} {ps : List (List Int)} (h : SaysH w wr O A ps) (t : Nat) : SaysH w wr O A (ps.take t) :=
  ⟨h.o, HL.take h.hl t, h.tab, h.below⟩
theorem made_pair (w1 : World) (L : Array Value) (hL : L.size = 32) (oL : L.all (·.oneCell') = true) : ∃ w2, (writeAt (.pointer (some ⟨w1.heap.size, 0, none⟩)) (.agg L)).run Tryd.prog ((w1.alloc (.cells #[.int .u8 0, .int .u8 0, .int .u8 0, .int .u8 0, .int .u8 0, .int .u8 0, .int .u8 0, .int .u8 0, .int .u8 0, .int .u8 0, .int .u8 0, .int .u8 0, .int .u8 0, .int .u8 0, .int .u8 0, .int .u8 0, .int .u8 0, .int .u8 0, .int .u8 0, .int .u8 0, .int .u8 0, .int .u8 0, .int .u8 0, .int .u8 0, .int .u8 0, .int .u8 0, .int .u8 0, .int .u8 0, .int .u8 0, .int .u8 0, .int .u8 0, .int .u8 0] 30)).alloc (.cells #[.nilFunc] 50)) = .ok () w2 ∧ Row w2 w1.heap.size 30 L ∧ Row w2 (w1.heap.size + 1) 50 #[.nilFunc] ∧ Below w1.heap.size w1 w2 ∧ w2.heap.size = w1.heap.size + 2 := by
  have hr : Row ((w1.alloc (.cells (nums .u8 (List.replicate 32 0)) 30)).alloc (.cells #[.nilFunc] 50)) w1.heap.size 30 (nums .u8 (List.replicate 32 0)) := (Row.made _ _ _).alloc _
  refine ⟨((w1.alloc (.cells (nums .u8 (List.replicate 32 0)) 30)).alloc (.cells #[.nilFunc] 50)).setRow w1.heap.size L, ?_, hr.whole _, (Row.made2 _ _ _ _).wfar (by omega) _, below_setRow (((Below.refl _ _).alloc (Nat.le_refl _) _).alloc (by simp) _) (Nat.le_refl _), by simp⟩
  exact hr.write (by rw [nums_size]; simp) hL oL
theorem ad_zero (ad : Addr) : ad.add 0 = ad := by unfold Addr.add; split <;> simp_all
attribute [local go_sem ↓ high] read_at write_at
set_option maxHeartbeats 16000000 in
theorem says_any (older : List Int) (ho : older.length = 32 ∧ bytes older) (m n : Nat) (hm1 : 1 ≤ m) (hmn : m ≤ n) (hn : n ≤ 9223372036854775807) (ps : List (List Int)) (hps : hashes ps) (A : Option Addr) (c : Nat) (w : World) (hA : HL w w.heap.size A ps) (hT : Tab w) (hc : ps.length ≤ c) (hcm : c ≤ 9223372036854775807)
    (f k1 k2 : Nat) (G : List Int → List Int → Bool) (hF : Hands w f k1 k2 G) :
    Calls Tryd.prog 27 #[.int .i64 (m : Int), .int .i64 (n : Int), .agg (nums .u8 older), .slice A ps.length c, handV f k1 k2] w fun e w' => e = .returned (.bool (valS older m n true ps G)) ∧ Below w.heap.size w w' := by
  obtain ⟨q, hq⟩ : ∃ q, Hid (q = ps.length) := ⟨_, Lib.hid rfl⟩
  have hqc : q ≤ c := by rw [hq.out]; exact hc
  obtain ⟨O, hO⟩ : ∃ O, Hid (O = nums .u8 older) := ⟨_, Lib.hid rfl⟩
  have zO : Hid (O.size = 32) := Lib.hid (by rw [hO.out, nums_size]; exact ho.1)
  have HO := Lib.hid ho
  obtain ⟨R, hR⟩ : ∃ R, Hid (R = valS older m n true ps G) := ⟨_, Lib.hid rfl⟩
  have H0 := Lib.hid (SaysH.start (O := O) hA hT)
  have HB0 : Hid (Below w.heap.size w (w.alloc (.cells O 30))) := Lib.hid H0.out.below
  have HF := Lib.hid hF
  have HP := Lib.hid hps
  have HV : Hid (valS older m n true ps G = R) := Lib.hid hR.out.symm
  unfold handV
  rw [← hq.out, ← hO.out, ← hR.out]
  clear hA hT hF hps ho hc
  go_enter Tryd.func27, Tryd.ntmps27
  go_upto_region 1 with fail
  refine world_gen (fun wx => SaysH w wx O A ps ∧ Hands wx f k1 k2 G) ⟨H0.out, HF.out.next HB0.out⟩ (fun wx HX => ?_)
  have HX1 := Lib.hid HX.1
  have HX2 := Lib.hid HX.2
  clear HX H0 HB0 HF
  go_wp2
  go_loopw [0, 1, 3, 4, 11] (fun s0 s1 s3 s4 s11 wr => ∃ (m' n' q' f' k1' k2' : Nat) (kn : Bool) (ps' : List (List Int)) (G' : List Int → List Int → Bool), s0 = .int .i64 (m' : Int) ∧ s1 = .int .i64 (n' : Int) ∧ s3 = .slice A q' c ∧ s4 = .func (.func f') #[] #[.pointer (some ⟨k1', 0, none⟩), .pointer (some ⟨k2', 0, none⟩)] ∧ s11 = .bool kn ∧ 1 ≤ m' ∧ m' ≤ n' ∧ n' ≤ 9223372036854775807 ∧ q' ≤ c ∧ Hid (q' = ps'.length) ∧ Hid (SaysH w wr O A ps') ∧ Hid (hashes ps') ∧ Hid (Hands wr f' k1' k2' G') ∧ Hid (valS older m' n' kn ps' G' = R)) (fun _ s1 _ _ _ _ => (intOf s1).toNat)
  case atStart => exact ⟨m, n, q, f, k1, k2, true, ps, G, rfl, rfl, rfl, rfl, rfl, hm1, hmn, hn, hqc, hq, HX1, HP, HX2, HV⟩
  case round =>
    clear HX1 HX2 HP HV hm1 hmn hn hqc hq
    obtain ⟨m', n', q', f', k1', k2', kn, ps', G', rfl, rfl, rfl, rfl, rfl, hm1, hmn, hn, hqc, hq, HX, HP, HF, HV⟩ := hrel
    have hent := HF.out.enters
    by_cases h2 : n' ≤ m'
    · have dm : decide ((m' : Int) < (n' : Int)) = false := decide_eq_false (by omega)
      have dm2 : decide (m' < n') = false := decide_eq_false (by omega)
      have dm3 : ¬ ((m' : Int) < (n' : Int)) := by omega
      cases kn with
      | true =>
        have HV2 : Hid (R = if q' = 0 then G' older older else false) := Lib.hid (by rw [← HV.out, valS_known h2, hq.out])
        have s5 := HX.out.o.read zO.out
        by_cases hq0 : q' = 0
        · have dq : ((q' : Int) == 0) = true := by rw [hq0]; rfl
          have X0 : Hid (Calls Tryd.prog f' #[.agg O, .agg O, .pointer (some ⟨k1', 0, none⟩), .pointer (some ⟨k2', 0, none⟩)] wr fun e w' => e = .returned (.bool R) ∧ Below wr.heap.size wr w') := Lib.hid (by
            rw [HV2.out, if_pos hq0, hO.out]; exact HF.out.call wr (Below.refl _ _) older older HO.out HO.out)
          clear hq0
          go_wp2_with (with_reducible refine X0.out.mono ?_; rintro e w2 ⟨rfl, hb⟩; have HB2 := Lib.hid (below_new HX.out.below hb); clear hb)
          go_ret
          exact ⟨rfl, HB2.out⟩
        · have dq : ((q' : Int) == 0) = false := by simp; omega
          have HV3 : Hid (R = false) := Lib.hid (by rw [HV2.out, if_neg hq0])
          clear hq0
          go_wp2
          go_ret
          exact ⟨by rw [HV3.out]; rfl, HX.out.below⟩
      | false =>
        have HV2 : Hid (R = if q' = 1 then G' (ps'.getD 0 []) (ps'.getD 0 []) else false) := Lib.hid (by rw [← HV.out, valS_not h2, hq.out])
        by_cases hq0 : q' = 1
        · have dq : ((q' : Int) == 1) = true := by rw [hq0]; rfl
          have dq1 : (0 : Int) < (q' : Int) := by omega
          have dq2 : 0 < q' := by omega
          have hps0 : 0 < ps'.length := by rw [← hq.out]; omega
          obtain ⟨ad, rfl⟩ := HL.some HX.out.hl 0 hps0
          obtain ⟨x, hx⟩ : ∃ x, Hid (x = ps'.getD 0 []) := ⟨_, Lib.hid rfl⟩
          obtain ⟨X, hX⟩ : ∃ X, Hid (X = nums .u8 x) := ⟨_, Lib.hid rfl⟩
          have hx32 : Hid (x.length = 32 ∧ bytes x) := Lib.hid (by rw [hx.out]; exact hashes_at HP.out 0 hps0)
          have RD : Hid (∀ W, SaysH w W O (some ad) ps' → (readAt (.pointer (some ad))).run Tryd.prog W = .ok (.agg X) W) := Lib.hid fun W hW => by
            have := HL.read hW.hl HP.out 0 hps0
            rw [show ad.add (0 * 32) = ad by rw [Nat.zero_mul]; exact ad_zero ad] at this
            rw [hX.out, hx.out]; exact this
          have X0 : Hid (∀ W, Below wr.heap.size wr W → Calls Tryd.prog f' #[.agg X, .agg X, .pointer (some ⟨k1', 0, none⟩), .pointer (some ⟨k2', 0, none⟩)] W fun e w' => e = .returned (.bool R) ∧ Below W.heap.size W w') := Lib.hid fun W hW => by
            rw [HV2.out, if_pos hq0, hX.out, ← hx.out]; exact HF.out.call W hW x x hx32.out hx32.out
          clear hq0 hps0
          go_upto_region 15 with fail
          refine wp_region_fk (Below wr.heap.size wr) (.get 0 (.get 1 (.get 2 (.get 3 (.get 4 (.get 5 (.get 6 (.get 7 (.get 8 (.get 9 (.get 10 (.call 11 (.get 12 (.get 13 .done)))))))))))))) (by kernel_rfl) rfl (by kernel_rfl) (by kernel_rfl) (by intro c a d v w h; cases d <;> exact h) (Below.refl wr.heap.size wr).drew (fun Q' hQ => ?_)
          have HS := Lib.hid (Below.refl wr.heap.size wr).drew
          have HQ := Lib.hid hQ
          clear hQ
          refine wpFk_get rfl (by rfl) (fun K hK => ?_)
          refine ⟨?_, fun w' hS' => ?_, ?_⟩
          rotate_left
          · go_simp
            try (with_reducible rfl)
          try go_simp
          refine hK _ ?_
          clear hK K
          refine wpFk_get rfl (by rfl) (fun K hK => ?_)
          refine ⟨?_, fun w' hS' => ?_, ?_⟩
          rotate_left
          · go_simp
            try (with_reducible rfl)
          try go_simp
          refine hK _ ?_
          clear hK K
          refine wpFk_get rfl (by rfl) (fun K hK => ?_)
          refine ⟨?_, fun w' hS' => ?_, ?_⟩
          rotate_left
          · go_simp
            try (with_reducible rfl)
          try go_simp
          refine hK _ ?_
          clear hK K
          refine wpFk_get rfl (by rfl) (fun K hK => ?_)
          refine ⟨?_, fun w' hS' => ?_, ?_⟩
          rotate_left
          · go_simp
            try (with_reducible rfl)
          try go_simp
          refine hK _ ?_
          clear hK K
          refine wpFk_get rfl (by rfl) (fun K hK => ?_)
          refine ⟨?_, fun w' hS' => ?_, ?_⟩
          rotate_left
          · go_simp
            try (with_reducible rfl)
          try go_simp
          refine hK _ ?_
          clear hK K
          refine wpFk_get rfl (by rfl) (fun K hK => ?_)
          refine ⟨?_, fun w' hS' => ?_, ?_⟩
          rotate_left
          · go_simp
            try (with_reducible rfl)
          try go_simp
          refine hK _ ?_
          clear hK K
          refine wpFk_get rfl (by rfl) (fun K hK => ?_)
          refine ⟨?_, fun w' hS' => ?_, ?_⟩
          rotate_left
          · go_simp
            try (with_reducible rfl)
          try go_simp
          refine hK _ ?_
          clear hK K
          refine wpFk_get rfl (by rfl) (fun K hK => ?_)
          refine ⟨_, fun w' hS' => get_load rfl rfl (RD.out _ (HX.out.next hS')), ?_⟩
          try go_simp
          refine hK _ ?_
          clear hK K
          refine wpFk_get rfl (by rfl) (fun K hK => ?_)
          refine ⟨?_, fun w' hS' => ?_, ?_⟩
          rotate_left
          · go_simp
            try (with_reducible rfl)
          try go_simp
          refine hK _ ?_
          clear hK K
          refine wpFk_get rfl (by rfl) (fun K hK => ?_)
          refine ⟨?_, fun w' hS' => ?_, ?_⟩
          rotate_left
          · go_simp
            try (with_reducible rfl)
          try go_simp
          refine hK _ ?_
          clear hK K
          refine wpFk_get rfl (by rfl) (fun K hK => ?_)
          refine ⟨_, fun w' hS' => get_load rfl rfl (RD.out _ (HX.out.next hS')), ?_⟩
          try go_simp
          refine hK _ ?_
          clear hK K
          refine wpFk_call rfl (by rfl) (fun K hK => ?_)
          go_simp
          with_reducible refine (X0.out _ HS.out).mono ?_
          rintro e w2x ⟨rfl, hb⟩
          replace HS := Lib.hid (below_new HS.out hb)
          clear hb
          refine hK _ _ HS.out ?_
          clear hK K
          refine wpFk_get rfl (by rfl) (fun K hK => ?_)
          refine ⟨?_, fun w' hS' => ?_, ?_⟩
          rotate_left
          · go_simp
            try (with_reducible rfl)
          try go_simp
          refine hK _ ?_
          clear hK K
          refine wpFk_get rfl (by rfl) (fun K hK => ?_)
          refine ⟨?_, fun w' hS' => ?_, ?_⟩
          rotate_left
          · go_simp
            try (with_reducible rfl)
          try go_simp
          refine hK _ ?_
          clear hK K
          refine wpFk_done ?_
          refine HQ.out _ _ ?_
          go_wp2
          go_ret
          exact ⟨rfl, below_new HX.out.below HS.out⟩
        · have dq : ((q' : Int) == 1) = false := by simp; omega
          have HV3 : Hid (R = false) := Lib.hid (by rw [HV2.out, if_neg hq0])
          clear hq0
          go_upto_region 15 with fail
          refine wp_region_fk (Below wr.heap.size wr) (.get 0 (.get 1 (.get 2 (.get 3 (.get 4 (.get 5 (.get 6 (.get 7 (.get 8 (.get 9 (.get 10 (.get 11 (.get 12 (.get 13 .done)))))))))))))) (by kernel_rfl) rfl (by kernel_rfl) (by kernel_rfl) (by intro c a d v w h; cases d <;> exact h) (Below.refl wr.heap.size wr).drew (fun Q' hQ => ?_)
          have HS := Lib.hid (Below.refl wr.heap.size wr).drew
          have HQ := Lib.hid hQ
          clear hQ
          refine wpFk_get rfl (by rfl) (fun K hK => ?_)
          refine ⟨?_, fun w' hS' => ?_, ?_⟩
          rotate_left
          · go_simp
            try (with_reducible rfl)
          try go_simp
          refine hK _ ?_
          clear hK K
          refine wpFk_get rfl (by rfl) (fun K hK => ?_)
          refine ⟨?_, fun w' hS' => ?_, ?_⟩
          rotate_left
          · go_simp
            try (with_reducible rfl)
          try go_simp
          refine hK _ ?_
          clear hK K
          refine wpFk_get rfl (by rfl) (fun K hK => ?_)
          refine ⟨?_, fun w' hS' => ?_, ?_⟩
          rotate_left
          · go_simp
            try (with_reducible rfl)
          try go_simp
          refine hK _ ?_
          clear hK K
          refine wpFk_get rfl (by rfl) (fun K hK => ?_)
          refine ⟨?_, fun w' hS' => ?_, ?_⟩
          rotate_left
          · go_simp
            try (with_reducible rfl)
          try go_simp
          refine hK _ ?_
          clear hK K
          refine wpFk_skip rfl (by rfl) (fun K hK => ?_)
          try go_simp
          refine hK _ ?_
          clear hK K
          refine wpFk_skip rfl (by rfl) (fun K hK => ?_)
          try go_simp
          refine hK _ ?_
          clear hK K
          refine wpFk_skip rfl (by rfl) (fun K hK => ?_)
          try go_simp
          refine hK _ ?_
          clear hK K
          refine wpFk_skip rfl (by rfl) (fun K hK => ?_)
          try go_simp
          refine hK _ ?_
          clear hK K
          refine wpFk_skip rfl (by rfl) (fun K hK => ?_)
          try go_simp
          refine hK _ ?_
          clear hK K
          refine wpFk_skip rfl (by rfl) (fun K hK => ?_)
          try go_simp
          refine hK _ ?_
          clear hK K
          refine wpFk_skip rfl (by rfl) (fun K hK => ?_)
          try go_simp
          refine hK _ ?_
          clear hK K
          refine wpFk_skip rfl (by rfl) (fun K hK => ?_)
          try go_simp
          refine hK _ ?_
          clear hK K
          refine wpFk_get rfl (by rfl) (fun K hK => ?_)
          refine ⟨?_, fun w' hS' => ?_, ?_⟩
          rotate_left
          · go_simp
            try (with_reducible rfl)
          try go_simp
          refine hK _ ?_
          clear hK K
          refine wpFk_get rfl (by rfl) (fun K hK => ?_)
          refine ⟨?_, fun w' hS' => ?_, ?_⟩
          rotate_left
          · go_simp
            try (with_reducible rfl)
          try go_simp
          refine hK _ ?_
          clear hK K
          refine wpFk_done ?_
          refine HQ.out _ _ ?_
          go_wp2
          go_ret
          exact ⟨by rw [HV3.out]; rfl, below_new HX.out.below HS.out⟩
    · have dm : (m' : Int) < (n' : Int) := by omega
      by_cases hq0 : q' = 0
      · have dq : ((q' : Int) == 0) = true := by rw [hq0]; rfl
        have HV2 : Hid (R = false) := Lib.hid (by
          have e : ps' = [] := List.eq_nil_of_length_eq_zero (by rw [← hq.out]; exact hq0)
          rw [← HV.out, e, valS_none h2])
        clear hq0
        go_wp2
        go_ret
        exact ⟨by rw [HV2.out]; rfl, HX.out.below⟩
      · have dq : ((q' : Int) == 0) = false := by simp; omega
        obtain ⟨t, ht⟩ : ∃ t : Nat, Hid (q' = t + 1) := ⟨q' - 1, Lib.hid (by omega)⟩
        have e4 : (q' : Int) - 1 = (t : Int) := by have := ht.out; omega
        have e5 : (t : Int) < (q' : Int) := by have := ht.out; omega
        have e6 : (0 : Int) ≤ (t : Int) := by omega
        have e7 : (t : Int) ≤ (c : Int) := by have := ht.out; omega
        have e8 : t ≤ c := by have := ht.out; omega
        have hptl : t < ps'.length := by rw [← hq.out]; have := ht.out; omega
        have hpt : Hid (ps'.length = t + 1) := Lib.hid (by rw [← hq.out, ht.out])
        obtain ⟨ad, rfl⟩ := HL.some HX.out.hl t hptl
        obtain ⟨x, hx⟩ : ∃ x, Hid (x = ps'.getD t []) := ⟨_, Lib.hid rfl⟩
        obtain ⟨X, hX⟩ : ∃ X, Hid (X = nums .u8 x) := ⟨_, Lib.hid rfl⟩
        have hx32 : x.length = 32 ∧ bytes x := by rw [hx.out]; exact hashes_at HP.out t hptl
        have HX32 := Lib.hid hx32
        have zX : Hid (X.size = 32) := Lib.hid (by rw [hX.out, nums_size]; exact hx32.1)
        have oX : Hid (X.all (·.oneCell') = true) := Lib.hid (by rw [hX.out]; exact nums_one _ _)
        have zZ : Hid ((nums .u8 (List.replicate 32 0)).size = 32) := Lib.hid (by rw [nums_size]; simp)
        have hZ := sizeH _ zZ.out
        have s1 : (readAt (.pointer (some (ad.add (t * 32))))).run Tryd.prog wr = .ok (.agg X) wr := by rw [hX.out, hx.out]; exact HL.read HX.out.hl HP.out t hptl
        obtain ⟨k, hk⟩ : ∃ k, Hid (k = splitN n') := ⟨_, Lib.hid rfl⟩
        have hk1 : 0 < k := by rw [hk.out]; exact splitN_pos _ (by omega)
        have hk2 : k < n' := by rw [hk.out]; exact splitN_lt _ (by omega)
        have S1 : Hid (∀ W, Calls Tryd.prog 16 #[.int .i64 (n' : Int)] W fun ev w' => ev = .returned (.int .i64 (k : Int)) ∧ W = w') := Lib.hid fun W =>
          (split_any (n' : Int) (by omega) W).mono fun ev w' ⟨he, hw⟩ => ⟨by rw [he]; unfold splitI; rw [show ((n' : Int)).toNat = n' by omega, hk.out], hw⟩
        clear hx32 hptl
        obtain ⟨w2, s2, hr2, hn2, hb2, hz2⟩ := made_pair wr X zX.out oX.out
        have HR2 := Lib.hid hr2
        have HN2 := Lib.hid hn2
        have HB2 := Lib.hid hb2
        clear hr2 hn2 hb2
        have c2 := HN2.out.cell 0
        have f2 := HN2.out.free 0
        go_upto_region 6 with fail
        refine world_gen (fun W => SaysH w W O (some ad) ps' ∧ Row W wr.heap.size 30 X ∧ Row W (wr.heap.size + 1) 50 #[handV f' k1' k2'] ∧ Below wr.heap.size wr W) ?_ (fun W HW => ?_)
        · have hbs : Below wr.heap.size wr (w2.setCell ⟨wr.heap.size + 1, 0, none⟩ (.func (.func f') #[] #[.pointer (some ⟨k1', 0, none⟩), .pointer (some ⟨k2', 0, none⟩)])) := HB2.out.setCell (by show wr.heap.size ≤ wr.heap.size + 1; omega) _
          exact ⟨HX.out.next hbs, HR2.out.far (by show wr.heap.size ≠ wr.heap.size + 1; omega) _, HN2.out.put 0 _, hbs⟩
        have HXW := Lib.hid HW.1
        have HLa := Lib.hid HW.2.1
        have HOn := Lib.hid HW.2.2.1
        have HBW := Lib.hid HW.2.2.2
        have HFW := Lib.hid (HF.out.next HW.2.2.2)
        clear HW HR2 HN2 HB2 c2 f2 s1 s2 hz2
        obtain ⟨g, hg⟩ : ∃ g, wr.heap.size = g := ⟨_, rfl⟩
        rw [hg] at HLa HOn ⊢
        have FN1 : Hid (Hands W 35 (g + 1) g (fun a b => G' a (nodeL b x))) := Lib.hid (says1_hands W HXW.out.tab (g + 1) g f' k1' k2' G' x HX32.out HOn.out (by rw [← hX.out]; exact HLa.out) HFW.out)
        have FN2 : Hid (Hands W 36 (g + 1) g (fun a b => G' (nodeL x a) (nodeL x b))) := Lib.hid (says2_hands W HXW.out.tab (g + 1) g f' k1' k2' G' x HX32.out HOn.out (by rw [← hX.out]; exact HLa.out) HFW.out)
        have HLn : Hid (t = (ps'.take t).length) := Lib.hid (by rw [List.length_take, hpt.out]; omega)
        have h2' := Lib.hid h2
        clear h2 hg hent
        by_cases hlt : m' ≤ k
        · have dl : (m' : Int) ≤ (k : Int) := by omega
          have HVn : Hid (valS older m' k kn (ps'.take t) (fun a b => G' a (nodeL b x)) = R) := Lib.hid (by
            have := valS_left (older := older) (kn := kn) (F := G') h2'.out (show m' ≤ splitN n' by rw [← hk.out]; exact hlt) hpt.out
            rw [← hk.out, ← hx.out] at this
            rw [this]; exact HV.out)
          go_wp2_with (go_at_call 16; (with_reducible refine (S1.out _).mono ?_); rintro e w' ⟨rfl, rfl⟩)
          go_roundw
          case rel => exact ⟨m', k, t, 35, g + 1, g, kn, ps'.take t, _, by go_num, by go_num, by go_num, rfl, rfl, hm1, hlt, by omega, e8, HLn, Lib.hid (HXW.out.take t), Lib.hid (hashes_take HP.out t), FN1, HVn⟩
          case measure => simp [intOf]; omega
        · have dl2 : ¬ ((m' : Int) ≤ (k : Int)) := by omega
          have dl : decide ((m' : Int) ≤ (k : Int)) = false := decide_eq_false dl2
          have HVn : Hid (valS older (m' - k) (n' - k) false (ps'.take t) (fun a b => G' (nodeL x a) (nodeL x b)) = R) := Lib.hid (by
            have := valS_right (older := older) (kn := kn) (F := G') h2'.out (show ¬ m' ≤ splitN n' by rw [← hk.out]; exact hlt) hpt.out
            rw [← hk.out, ← hx.out] at this
            rw [this]; exact HV.out)
          go_wp2_with (go_at_call 16; (with_reducible refine (S1.out _).mono ?_); rintro e w' ⟨rfl, rfl⟩)
          go_roundw
          case rel => exact ⟨m' - k, n' - k, t, 36, g + 1, g, false, ps'.take t, _, by go_num, by go_num, by go_num, rfl, rfl, by omega, by omega, by omega, e8, HLn, Lib.hid (HXW.out.take t), Lib.hid (hashes_take HP.out t), FN2, HVn⟩
          case measure => simp [intOf]; omega
end Go.Proofs.YtkjgkeigfebcmaaDoor
