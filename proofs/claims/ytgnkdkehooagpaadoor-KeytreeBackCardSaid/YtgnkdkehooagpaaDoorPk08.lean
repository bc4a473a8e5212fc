/-
  Several texts in one (a claim has room for 60 files): RefPublic, LampSaysB, TreeSays, ListSet, KeyMem, KeySmall.
-/
import Derived.Test.YtgnkdkehooagpaaDoorPk07
import Derived.Test.YtgnkdkehooagpaaDoorPk04
import Derived.Test.YtgnkdkehooagpaaDoorPk05
import Derived.Test.YtgnkdkehooagpaaDoorPk03
import Derived.Test.YtgnkdkehooagpaaDoorPk02
import Derived.Deep.MidRow
namespace Go.Proofs.YtgnkdkehooagpaaDoor
open Go.RowKit Go.Great
set_option linter.unusedVariables false
set_option maxRecDepth 100000

/-- What Public and others that hand a list back do. -/
def GivesP (w : World) (ls : List (List Int)) (e : Ending) (w' : World) : Prop :=
  ∃ A c, e = .returned (.slice A ls.length c) ∧ ls.length ≤ c ∧ c ≤ maxLen ∧ HL w' w'.heap.size A ls ∧ Below w.heap.size w w'
attribute [local go_sem ↓ high] read_at write_at
set_option maxHeartbeats 8000000 in
theorem refPublic_some (seed : ByteArray) (hs : seed.size ≤ 100000) (index : Nat) (hi : index ≤ 2147483647) (w : World) :
    Calls Tryd.prog 21 #[.string seed, .int .i64 (index : Int)] w (GivesP w (pubN seed index 512)) := by
  obtain ⟨i0, hi0, hz0, hz1, hz2⟩ := info_parts infoHash
  have d1 : decide ((index : Int) < 0) = false := decide_eq_false (by omega)
  have d2 : decide (2147483647 < (index : Int)) = false := decide_eq_false (by omega)
  have d3 : ¬ 2147483647 < index := by omega
  have d4 : (index : Int) ≤ 2147483647 := by omega
  have d5 : decide (2147483647 < index) = false := decide_eq_false d3
  have SE : Hid (∀ (W : World) (i b : Nat), i ≤ 255 → b ≤ 1 → Calls Tryd.prog 43 #[.string seed, .int .i64 (index : Int), .int .i64 (i : Int), .int .i64 (b : Int)] W fun e w' => e = .returned (.agg (nums .u8 (secL seed index i b))) ∧ Below W.heap.size W w') := Lib.hid fun W i b h1 h2 => by
    have := refSecret_any seed hs (index : Int) (i : Int) (b : Int) (by omega) W
    rwa [secF_ok hi h1 h2] at this
  have H0 : Hid (OwnL w w (.slice none 0 0) 0 (pubN seed index 0)) := Lib.hid (OwnL.start w)
  have hw9 : IntKind.i64.wrap (index : Int) = (index : Int) := by rw [IntKind.wrap_i64]; omega
  clear hs hi
  go_enter Tryd.func21, Tryd.ntmps21
  go_wp2
  go_loopw [5, 6] (fun s5 s6 wr => ∃ (k : Nat) (v : Value), s6 = .int .i64 ((k : Nat) : Int) ∧ v = s5 ∧ k ≤ 256 ∧ Hid (OwnL w wr v (2 * k) (pubN seed index (2 * k)))) (fun _ s6 _ => (256 - intOf s6).toNat)
  case atStart => exact ⟨0, _, rfl, rfl, by omega, H0⟩
  case round =>
    clear H0
    obtain ⟨k, v, rfl, rfl, hk, HO⟩ := hrel
    by_cases hlt : k < 256
    · have hlt2 : (k : Int) < 256 := by omega
      have hwk : IntKind.i64.wrap (k : Int) = (k : Int) := by rw [IntKind.wrap_i64]; omega
      have HO0 : Hid (OwnL w wr v (2 * k + 0) (pubN seed index (2 * k + 0))) := HO
      clear HO
      go_wp2
      go_loopw [5, 7] (fun s5 s7 wr => ∃ (b : Nat) (v : Value), s7 = .int .i64 ((b : Nat) : Int) ∧ v = s5 ∧ b ≤ 2 ∧ Hid (OwnL w wr v (2 * k + b) (pubN seed index (2 * k + b)))) (fun _ s7 _ => (2 - intOf s7).toNat)
      case atStart => exact ⟨0, _, rfl, rfl, by omega, HO0⟩
      case round =>
        clear HO0
        obtain ⟨b, v2, rfl, rfl, hb2, HO⟩ := hrel
        by_cases hb : b < 2
        · have hwb : IntKind.i64.wrap (b : Int) = (b : Int) := by rw [IntKind.wrap_i64]; omega
          obtain ⟨x, hx⟩ : ∃ x, Hid (x = secL seed index k b) := ⟨_, Lib.hid rfl⟩
          obtain ⟨X, hX⟩ : ∃ X, Hid (X = nums .u8 x) := ⟨_, Lib.hid rfl⟩
          have hx32 : Hid (x.length = 32 ∧ bytes x) := Lib.hid (by rw [hx.out]; exact secL_is _ _ _ _)
          have zX : Hid (X.size = 32) := Lib.hid (by rw [hX.out, nums_size]; exact hx32.out.1)
          have oX : Hid (X.all (·.oneCell') = true) := Lib.hid (by rw [hX.out]; exact nums_one _ _)
          obtain ⟨y, hy⟩ : ∃ y, Hid (y = pubH x) := ⟨_, Lib.hid rfl⟩
          obtain ⟨C, hC⟩ : ∃ C, Hid (C = nums .u8 y) := ⟨_, Lib.hid rfl⟩
          have hy32 : Hid (y.length = 32 ∧ bytes y) := Lib.hid (by rw [hy.out]; exact pubH_is _)
          have zC : Hid (C.size = 32) := Lib.hid (by rw [hC.out, nums_size]; exact hy32.out.1)
          obtain ⟨S, hS⟩ : ∃ S, Hid (S = strOfNums x) := ⟨_, Lib.hid rfl⟩
          obtain ⟨S3, hS3⟩ : ∃ S3, Hid (S3 = ⟨#[3]⟩ ++ S) := ⟨_, Lib.hid rfl⟩
          have sS : S.size = 32 := by rw [hS.out, strOfNums_size]; exact hx32.out.1
          have a1 : ∀ W, (Op.stringOp .add ⟨#[3]⟩ S).run Tryd.prog W = .ok (.string S3) W := fun W => by rw [hS3.out]; exact join_text _ _ (by show 1 + S.size ≤ _; omega) W
          have X1 : Hid (∀ W, Calls Tryd.prog 43 #[.string seed, .int .i64 (index : Int), .int .i64 (k : Int), .int .i64 (b : Int)] W fun e w' => e = .returned (.agg X) ∧ Below W.heap.size W w') := Lib.hid fun W => by
            rw [hX.out, hx.out]; exact SE.out W k b (by omega) (by omega)
          have X2 : Hid (∀ W, Calls Tryd.prog 42 #[.string S3] W fun e w' => e = .returned (.agg C) ∧ Below W.heap.size W w') := Lib.hid fun W => by
            rw [hC.out, hy.out]
            have := refSum_any S3 (by rw [hS3.out, ByteArray.size_append]; show 1 + S.size ≤ _; omega) W
            rw [hS3.out, hS.out] at this
            rw [hS3.out, hS.out]; exact this
          have HN : Hid (pubN seed index (2 * k + (b + 1)) = pubN seed index (2 * k + b) ++ [y]) := Lib.hid (by
            rw [show 2 * k + (b + 1) = 2 * k + b + 1 by omega, pubN_next, hy.out, hx.out]
            unfold pubAt
            rw [show (2 * k + b) / 2 = k by omega, show (2 * k + b) % 2 = b by omega])
          have hkb : Hid (2 * k + b + 1 ≤ 8192) := Lib.hid (by omega)
          clear sS
          go_upto_region 11 with (go_at_call 43; (with_reducible refine (X1.out _).mono ?_); rintro e w1 ⟨rfl, hb1⟩; obtain ⟨w2, s2, hr2, hb2', hz2⟩ := made_write w1 X zX.out oX.out; have HR2 := Lib.hid hr2; have HB2 := Lib.hid (below_new hb1 hb2'); clear hr2 hb1 hb2' hz2)
          clear s2
          have c1 : (convert 42 9 (.slice (some ⟨w1.heap.size, 0, none⟩) 32 32)).run Tryd.prog w2 = .ok (.string S) w2 := by rw [hS.out]; exact conv_row (by rw [← hX.out]; exact HR2.out) hx32.out.1
          go_wp2_with (first
            | (go_at_call 42; (with_reducible refine (X2.out _).mono ?_); rintro e w3 ⟨rfl, hb3⟩; have HB3 := Lib.hid (below_new HB2.out hb3); clear hb3 c1)
            | (refine wpList_buildOne rfl _ rfl C rfl zC.out ?_)
            | (at_builtin; refine wpList_append_own _ rfl (.tmp 28) (.tmp 33) 27 rfl w.heap.size 23 i0 _ 32 32 Tryd.underlying27 hi0 hz0 hz1 hz2 (by simp [Value.cells, nums]) (by decide) _ _ _ rfl ((own_below HO.out.1 HB3.out).alloc _) ⟨w3.heap.size, 0, none⟩ 1 1 (y.map (Value.int .u8)) rfl ?cc0 ?cc1 ?cc2 (by have := hkb.out; unfold maxLen; omega) (by have := hkb.out; omega) ?cc5 ?_))
          case cc0 => rw [List.length_map, hy32.out.1]
          case cc1 =>
            intro j u hj
            rw [add_flat, cell_of_row _ w3.heap.size j _ _ _ (heap_alloc_new w3 _), hC.out]
            simpa [nums] using hj
          case cc2 =>
            intro u hu
            obtain ⟨z, _, rfl⟩ := List.mem_map.1 hu
            rfl
          case cc5 => have := HO.out.2.size; have := HB3.out.size; simp; omega
          intro v' w4 hown hgrow _
          have HO2 : Hid (OwnL w w4 v' (2 * k + (b + 1)) (pubN seed index (2 * k + (b + 1)))) := Lib.hid (by rw [HN.out]; exact HO.out.next HB3.out hown hgrow)
          clear hown hgrow HO HB2 HB3
          go_wp2
          go_roundw
          case rel => exact ⟨b + 1, _, by go_num, rfl, by omega, HO2⟩
          case measure => simp [intOf]; omega
        · have hb3 : b = 2 := by omega
          have HO2 : Hid (OwnL w wr v2 (2 * (k + 1)) (pubN seed index (2 * (k + 1)))) := Lib.hid (by rw [show 2 * (k + 1) = 2 * k + b by omega]; exact HO.out)
          clear hb3 HO
          go_wp2
          go_roundw
          case rel => exact ⟨k + 1, _, by go_num, rfl, by omega, HO2⟩
          case measure => simp [intOf]; omega
    · have hk9 : k = 256 := by omega
      have HO2 : Hid (OwnL w wr v 512 (pubN seed index 512)) := Lib.hid (by have := HO.out; rw [hk9] at this; exact this)
      clear HO hk9
      obtain ⟨A, c, hv, hc, hcm, hA⟩ : ∃ A c, Hid (v = .slice A 512 c) ∧ Hid (512 ≤ c) ∧ Hid (c ≤ maxLen) ∧ Hid (HL wr wr.heap.size A (pubN seed index 512)) := by
        obtain ⟨A, c, e1, e2, e3, e4⟩ := OwnL.lead2 (ls := pubN seed index 512) (by rw [pubN_length]; exact HO2.out) (pubN_hashes _ _ _)
        rw [pubN_length] at e1 e2
        exact ⟨A, c, Lib.hid e1, Lib.hid e2, Lib.hid e3, Lib.hid e4⟩
      go_wp2
      go_ret
      exact ⟨A, c, by rw [pubN_length]; exact congrArg Ending.returned hv.out, by rw [pubN_length]; exact hc.out, hcm.out, hA.out, HO2.out.2⟩
theorem refPublic_any (seed : ByteArray) (hs : seed.size ≤ 100000) (index : Int) (h64 : -9223372036854775808 ≤ index ∧ index ≤ 9223372036854775807) (w : World) :
    Calls Tryd.prog 21 #[.string seed, .int .i64 index] w (GivesP w (pubF seed index)) := by
  by_cases h : index < 0 ∨ 2147483647 < index
  · rw [pubF_no h]
    by_cases h1 : index < 0
    · have d1 : decide (index < 0) = true := decide_eq_true h1
      clear h hs
      go_enter Tryd.func21, Tryd.ntmps21
      go_wp2
      go_ret
      exact ⟨none, 0, rfl, Nat.le_refl _, by decide, HL.nil _ _ _, Below.refl _ _⟩
    · have d1 : decide (index < 0) = false := decide_eq_false h1
      have h2 : 2147483647 < index := h.resolve_left h1
      have d2 : decide (2147483647 < index) = true := decide_eq_true h2
      clear h hs
      go_enter Tryd.func21, Tryd.ntmps21
      go_wp2
      go_ret
      exact ⟨none, 0, rfl, Nat.le_refl _, by decide, HL.nil _ _ _, Below.refl _ _⟩
  · obtain ⟨I, rfl⟩ : ∃ I : Nat, index = I := ⟨index.toNat, by omega⟩
    rw [pubF_ok (by omega)]
    exact refPublic_some seed hs I (by omega) w
end Go.Proofs.YtgnkdkehooagpaaDoor
namespace Go.Proofs.YtgnkdkehooagpaaDoor
open Go.RowKit Go.Great
set_option linter.unusedVariables false
set_option maxRecDepth 100000

def num64 (x : Int) : Prop := -9223372036854775808 ≤ x ∧ x ≤ 9223372036854775807
def PublicSays : Prop := ∀ (seed : ByteArray) (index : Int) (W : World), Tab W → seed.size ≤ 100000 → num64 index →
  Calls Tryd.prog 18 #[.string seed, .int .i64 index] W (GivesP W (pubF seed index))
def KeySays : Prop := ∀ (ls : List (List Int)) (A : Option Addr) (c : Nat) (W : World), Tab W → hashes ls → HL W W.heap.size A ls → ls.length ≤ c → c ≤ maxLen →
  Calls Tryd.prog 17 #[.slice A ls.length c] W fun e w' => e = .returned (.agg (nums .u8 (keyF ls))) ∧ Below W.heap.size W w'
def SignSays : Prop := ∀ (seed : ByteArray) (index : Int) (d : List Int) (W : World), Tab W → seed.size ≤ 100000 → num64 index → d.length = 32 ∧ bytes d →
  Calls Tryd.prog 26 #[.string seed, .int .i64 index, .agg (nums .u8 d)] W fun e w' => e = .returned (.string (sigF seed index d)) ∧ Below W.heap.size W w'
def RecoverSays : Prop := ∀ (s : ByteArray) (d : List Int) (W : World), Tab W → s.size ≤ maxLen → d.length = 32 ∧ bytes d →
  Calls Tryd.prog 30 #[.string s, .agg (nums .u8 d)] W fun e w' => e = .returned (.tuple #[.agg (nums .u8 (recF s d).1), .int .i64 (recF s d).2]) ∧ Below W.heap.size W w'
end Go.Proofs.YtgnkdkehooagpaaDoor
namespace Go.Proofs.YtgnkdkehooagpaaDoor
open Go.RowKit Go.Great
set_option linter.unusedVariables false
set_option maxRecDepth 100000

structure TreeSays (TR : World → Value → ByteArray → Prop) : Prop where
  next : ∀ {W W1 : World} {v : Value} {seed : ByteArray}, TR W v seed → Below W.heap.size W W1 → TR W1 v seed
  new_ : ∀ (seed : ByteArray) (W : World), Tab W → seed.size ≤ 100000 →
    Calls Tryd.prog 8 #[.string seed] W fun e w' => ∃ v, e = .returned v ∧ TR w' v seed ∧ Below W.heap.size W w'
  root : ∀ (seed : ByteArray) (v : Value) (W : World), Tab W → TR W v seed → seed.size ≤ 100000 →
    Calls Tryd.prog 10 #[v] W fun e w' => e = .returned (.agg (nums .u8 (rootF seed))) ∧ Below W.heap.size W w'
  sign : ∀ (seed : ByteArray) (v : Value) (i : Int) (d : List Int) (W : World), Tab W → TR W v seed → seed.size ≤ 100000 → num64 i → d.length = 32 ∧ bytes d →
    Calls Tryd.prog 12 #[v, .int .i64 i, .agg (nums .u8 d)] W (GivesS W (sealF seed i d))
  ver : ∀ (root d : List Int) (i : Int) (s : ByteArray) (p : List (List Int)) (A : Option Addr) (c : Nat) (W : World), Tab W → root.length = 32 ∧ bytes root → d.length = 32 ∧ bytes d → num64 i → s.size ≤ maxLen → hashes p → HW W A p → p.length ≤ c → c ≤ maxLen →
    Calls Tryd.prog 15 #[.agg (nums .u8 root), .agg (nums .u8 d), .agg (sealV i s A p.length c)] W fun e w' => e = .returned (.int .i64 (verF root d i s p)) ∧ Below W.heap.size W w'
/-- What they say of a tree that is none. -/
def NoneSays (v : Value) (OK : World → Prop) : Prop := ∀ (i : Int) (d : List Int) (W : World), OK W → num64 i → d.length = 32 ∧ bytes d →
  Calls Tryd.prog 12 #[v, .int .i64 i, .agg (nums .u8 d)] W (GivesS W ((0, ⟨#[]⟩, []), 1)) ∧
  Calls Tryd.prog 10 #[v] W fun e w' => e = .returned (.agg (nums .u8 zeroL)) ∧ Below W.heap.size W w'
end Go.Proofs.YtgnkdkehooagpaaDoor
namespace Go.Proofs.YtgnkdkehooagpaaDoor
open Go.RowKit Go.Great
set_option linter.unusedVariables false
set_option maxRecDepth 100000

theorem setL_hashes {ls : List (List Int)} (h : hashes ls) (k : Nat) (l : List Int) (hl : l.length = 32 ∧ bytes l) : hashes (ls.set k l) := fun x hx => by
  rcases List.mem_or_eq_of_mem_set hx with hx | rfl
  · exact h x hx
  · exact hl
theorem setL_getD (ls : List (List Int)) (k i : Nat) (l : List Int) (hi : i < ls.length) : (ls.set k l).getD i [] = if i = k then l else ls.getD i [] := by
  rw [List.getD_eq_getElem?_getD, List.getElem?_set]
  by_cases h : k = i
  · subst h; rw [if_pos rfl, if_pos hi, if_pos rfl]; rfl
  · rw [if_neg h, if_neg (fun e => h e.symm), ← List.getD_eq_getElem?_getD]
theorem own_room {w : World} {base g n cap : Nat} {xs : List Value} (h : w.ownsRow base 23 32 (.slice (some ⟨g, 0, none⟩) n cap) n xs) (k : Nat) (hk : k < n) : w.there g (k * 32) 32 := by
  rcases h.2 with ⟨h0, _⟩ | ⟨g', cap', cur, hv, hb, hg, hn, _, hsz, _⟩
  · cases h0
  · cases hv
    refine fun j hj => ⟨?_, frozen_of_row w g _ cur _ hg⟩
    rw [cell_of_row w g _ cur _ _ hg, Array.getElem?_eq_getElem (by rw [hsz]; have := Nat.mul_le_mul_right 32 (show k + 1 ≤ cap by omega); omega)]
    rfl
/-- A hash into a place of a slice. -/
theorem HL.set {wr : World} {B g : Nat} {ls : List (List Int)} (h : HL wr B (Option.some ⟨g, 0, none⟩) ls) (k : Nat) (hk : k < ls.length) (x : List Int) (hx : x.length = 32) (ht : wr.there g (k * 32) 32) : HL (wr.setCells g (k * 32) (nums .u8 x).toList) B (Option.some ⟨g, 0, none⟩) (ls.set k x) := by
  have hvl : (nums .u8 x).toList.length = 32 := by rw [Array.length_toList, nums_size, hx]
  intro i hi
  rw [List.length_set] at hi
  obtain ⟨ad, e, hlt, hc⟩ := h i hi
  cases e
  refine ⟨_, rfl, hlt, fun j hj => ?_⟩
  have hcj := hc j hj
  rw [add_flat] at hcj ⊢
  rw [setL_getD ls k i x hi]
  by_cases hik : i = k
  · subst hik
    rw [if_pos rfl, World.cell?_setCells_in g _ _ wr (fun q hq => (ht q (by omega)).1) j (by omega)]
    have e := nums_get .u8 x j (by omega)
    rw [← Array.getElem?_toList, List.getElem?_eq_getElem (by omega)] at e
    exact e
  · rw [if_neg hik, World.cell?_setCells_out g _ _ wr ⟨g, i * 32 + j, none⟩ (fun _ _ => by
      rw [hvl]
      rcases Nat.lt_or_gt_of_ne hik with h' | h'
      · left; have := Nat.mul_le_mul_right 32 (show i + 1 ≤ k by omega); show i * 32 + j < k * 32; omega
      · right; have := Nat.mul_le_mul_right 32 (show k + 1 ≤ i by omega); show k * 32 + 32 ≤ i * 32 + j; omega)]
    exact hcj
theorem size_setCells (b : Nat) : ∀ (vs : List Value) (o : Nat) (w : World), (w.setCells b o vs).heap.size = w.heap.size
  | [], _, _ => rfl
  | v :: r, o, w => by rw [World.setCells, size_setCells b r]; simp
end Go.Proofs.YtgnkdkehooagpaaDoor
namespace Go.Proofs.YtgnkdkehooagpaaDoor
open Go.RowKit Go.Great
set_option linter.unusedVariables false
set_option maxRecDepth 100000

/-- A tree's block as it is made: a seed, hashes of zeros. -/
def treeZ (b : Bool) (s : ByteArray) : Array Value := #[Value.bool b, Value.string s] ++ nums .u8 (List.replicate 288 0)
theorem treeZ_size (b : Bool) (s : ByteArray) : (treeZ b s).size = 290 := by simp [treeZ, nums_size]
theorem treeZ_get (b : Bool) (s : ByteArray) (j : Nat) (h : j < 288) : (treeZ b s)[2 + j]? = some (.int .u8 0) := by
  unfold treeZ
  rw [Array.getElem?_append_right (by simp), show 2 + j - (#[Value.bool b, Value.string s] : Array Value).size = j by simp, nums_get .u8 _ j (by rw [List.length_replicate]; exact h), List.getD_eq_getElem?_getD, List.getElem?_replicate, if_pos h]
  rfl
theorem built_tree (s : ByteArray) : Tryd.prog.built 47 [(0, .bool true), (1, .string s)] = some (treeZ true s) := by
  kernel_rfl
theorem built_none : Tryd.prog.built 47 [] = some (treeZ false ⟨#[]⟩) := by
  kernel_rfl
theorem wpList_buildTree {ops : Array Oper} {rest : List Oper} {o : Oper} {a : Act} {w : World} {Q : Exit → Act → World → Prop} (hgd : o.guard = none) (x : Operand) (ho : o.op = .build 47 #[(0, .const (.bool true)), (1, x)])
    (s : ByteArray) (hx : a.eval x = .string s) (h : wpList Tryd.prog ops Q rest (a.put o.dst (.agg (treeZ true s))) w) : wpList Tryd.prog ops Q (o :: rest) a w :=
  wpList_plain hgd fun _ hK => by
    have e : ((#[(0, .const (.bool true)), (1, x)] : Array (Nat × Operand)).map fun (i, x) => (i, a.eval x)).toList = [(0, .bool true), (1, .string s)] := by
      simp [hx]
      rfl
    unfold Oper.wp execOp
    simp only [ho, Sem.run_bind, Sem.run_pure, run_build w 47 _ (treeZ true s) (by rw [e]; exact built_tree s), Result.andThen_ok]
    exact hK _ _ h
theorem wpList_buildNone {ops : Array Oper} {rest : List Oper} {o : Oper} {a : Act} {w : World} {Q : Exit → Act → World → Prop} (hgd : o.guard = none) (ho : o.op = .build 47 #[])
    (h : wpList Tryd.prog ops Q rest (a.put o.dst (.agg (treeZ false ⟨#[]⟩))) w) : wpList Tryd.prog ops Q (o :: rest) a w :=
  wpList_plain hgd fun _ hK => by
    have e : ((#[] : Array (Nat × Operand)).map fun (i, x) => (i, a.eval x)).toList = [] := by simp
    unfold Oper.wp execOp
    simp only [ho, Sem.run_bind, Sem.run_pure, run_build w 47 _ (treeZ false ⟨#[]⟩) (by rw [e]; exact built_none), Result.andThen_ok]
    exact hK _ _ h
/-- A tree of keys in memory. -/
structure TreeM (W : World) (g : Nat) (seed : ByteArray) (ms : List (List Int)) (rt : List Int) : Prop where
  made : W.cell? ⟨g, 0, none⟩ = some (.bool true)
  sd : W.cell? ⟨g, 1, none⟩ = some (.string seed)
  lst : HL W (g + 1) (some ⟨g, 2, none⟩) ms
  root : ∀ j, j < 32 → W.cell? ⟨g, 258 + j, none⟩ = some (.int .u8 (rt.getD j 0))
  room : W.there g 2 288
  lt : g < W.heap.size
section
variable {W W1 : World} {g : Nat} {seed : ByteArray} {ms : List (List Int)} {rt : List Int}
theorem there_old {B o n : Nat} (h : W.there g o n) (hb : Below B W W1) (hg : g < B) : W1.there g o n := fun j hj =>
  have e := hb.block g hg
  ⟨by rw [World.cell?_of_block e]; exact (h j hj).1, by rw [World.frozen?_of_block e]; exact (h j hj).2⟩
theorem TreeM.old {B : Nat} (h : TreeM W g seed ms rt) (hb : Below B W W1) (hg : g < B) : TreeM W1 g seed ms rt :=
  have e := hb.block g hg
  ⟨by rw [World.cell?_of_block e]; exact h.made, by rw [World.cell?_of_block e]; exact h.sd, h.lst.next hb hg, fun j hj => by rw [World.cell?_of_block e]; exact h.root j hj, there_old h.room hb hg, Nat.lt_of_lt_of_le h.lt hb.size⟩
theorem TreeM.next (h : TreeM W g seed ms rt) (hb : Below W.heap.size W W1) : TreeM W1 g seed ms rt := h.old hb h.lt
theorem TreeM.list (h : TreeM W g seed ms rt) : HL W W.heap.size (some ⟨g, 2, none⟩) ms := h.lst.more h.lt
theorem TreeM.there (h : TreeM W g seed ms rt) (k : Nat) (hk : k < 9) : W.there g (2 + k * 32) 32 := fun j hj => by
  have := h.room (k * 32 + j) (by omega)
  rwa [← Nat.add_assoc] at this
theorem TreeM.readRoot (h : TreeM W g seed ms rt) (hl : rt.length = 32) : (readAt (.pointer (some ⟨g, 258, none⟩))).run Tryd.prog W = .ok (.agg (nums .u8 rt)) W :=
  read_flat W ⟨g, 258, none⟩ rt hl fun j hj => by rw [Addr.add_mid]; exact h.root j hj
/-- A leaf is put in its place. -/
theorem TreeM.put (h : TreeM W g seed ms rt) (k : Nat) (hk : k < 8) (hm : ms.length = 8) (x : List Int) (hx : x.length = 32) : TreeM (W.setCells g (2 + k * 32) (nums .u8 x).toList) g seed (ms.set k x) rt := by
  have hvl : (nums .u8 x).toList.length = 32 := by rw [Array.length_toList, nums_size, hx]
  have ht := h.there k (by omega)
  have out : ∀ o, o < 2 + k * 32 ∨ 2 + k * 32 + 32 ≤ o → (W.setCells g (2 + k * 32) (nums .u8 x).toList).cell? ⟨g, o, none⟩ = W.cell? ⟨g, o, none⟩ := fun o ho =>
    World.cell?_setCells_out g _ _ W ⟨g, o, none⟩ (fun _ _ => by rw [hvl]; exact ho)
  refine ⟨(out 0 (by omega)).trans h.made, (out 1 (by omega)).trans h.sd, ?_, fun j hj => (out (258 + j) (by omega)).trans (h.root j hj), World.there_setCells h.room _ _ _, by rw [size_setCells]; exact h.lt⟩
  intro i hi
  rw [List.length_set, hm] at hi
  obtain ⟨ad, e, hlt, hc⟩ := h.lst i (by omega)
  cases e
  refine ⟨_, rfl, hlt, fun j hj => ?_⟩
  have hcj := hc j hj
  rw [Addr.add_mid] at hcj ⊢
  rw [setL_getD ms k i x (by omega)]
  by_cases hik : i = k
  · subst hik
    rw [if_pos rfl, ← Nat.add_assoc, World.cell?_setCells_in g _ _ W (fun q hq => (ht q (by omega)).1) j (by omega)]
    have e := nums_get .u8 x j (by omega)
    rw [← Array.getElem?_toList, List.getElem?_eq_getElem (by omega)] at e
    exact e
  · rw [if_neg hik]
    refine (out _ ?_).trans hcj
    rcases Nat.lt_or_gt_of_ne hik with h' | h'
    · left; have := Nat.mul_le_mul_right 32 (show i + 1 ≤ k by omega); omega
    · right; have := Nat.mul_le_mul_right 32 (show k + 1 ≤ i by omega); omega
/-- The root is put in its place. -/
theorem TreeM.putRoot (h : TreeM W g seed ms rt) (hm : ms.length = 8) (x : List Int) (hx : x.length = 32) : TreeM (W.setCells g 258 (nums .u8 x).toList) g seed ms x := by
  have hvl : (nums .u8 x).toList.length = 32 := by rw [Array.length_toList, nums_size, hx]
  have ht := h.there 8 (by omega)
  have out : ∀ o, o < 258 → (W.setCells g 258 (nums .u8 x).toList).cell? ⟨g, o, none⟩ = W.cell? ⟨g, o, none⟩ := fun o ho =>
    World.cell?_setCells_out g _ _ W ⟨g, o, none⟩ (fun _ _ => .inl ho)
  refine ⟨(out 0 (by omega)).trans h.made, (out 1 (by omega)).trans h.sd, ?_, fun j hj => ?_, World.there_setCells h.room _ _ _, by rw [size_setCells]; exact h.lt⟩
  · intro i hi
    obtain ⟨ad, e, hlt, hc⟩ := h.lst i hi
    cases e
    refine ⟨_, rfl, hlt, fun j hj => ?_⟩
    have hcj := hc j hj
    rw [Addr.add_mid] at hcj ⊢
    exact (out _ (by omega)).trans hcj
  · rw [World.cell?_setCells_in g _ _ W (fun q hq => (ht q (by omega)).1) j (by omega)]
    have e := nums_get .u8 x j (by omega)
    rw [← Array.getElem?_toList, List.getElem?_eq_getElem (by omega)] at e
    exact e
end
/-- The leaves that are there behind k of them. -/
def keysM (seed : ByteArray) (k : Nat) : List (List Int) := (List.range 8).map fun j => if j < k then keyF (pubN seed j 512) else zeroL
theorem keysM_length (seed : ByteArray) (k : Nat) : (keysM seed k).length = 8 := by simp [keysM]
theorem keysM_get (seed : ByteArray) (k j : Nat) (h : j < 8) : (keysM seed k).getD j [] = if j < k then keyF (pubN seed j 512) else zeroL := by simp [keysM, List.getD, h]
theorem keysM_done (seed : ByteArray) : keysM seed 8 = keysF seed := by
  unfold keysM keysF
  refine List.map_congr_left fun j hj => ?_
  rw [if_pos (List.mem_range.1 hj)]
theorem keysM_step (seed : ByteArray) (k : Nat) : (keysM seed k).set k (keyF (pubN seed k 512)) = keysM seed (k + 1) := by
  apply List.ext_getElem?
  intro j
  rw [List.getElem?_set]
  unfold keysM
  simp only [List.length_map, List.length_range, List.getElem?_map]
  by_cases hj : j < 8
  · rw [List.getElem?_range hj]
    by_cases h1 : k = j
    · subst h1; simp [hj]
    · rw [if_neg h1]
      by_cases h2 : j < k
      · simp [h2, show j < k + 1 by omega]
      · simp [h2, show ¬ j < k + 1 by omega]
  · rw [List.getElem?_eq_none (l := List.range 8) (by simp; omega)]
    by_cases h1 : k = j
    · subst h1; simp [hj]
    · rw [if_neg h1]; rfl
theorem treeZ_made (b : Bool) (s : ByteArray) : (treeZ b s)[0]? = some (.bool b) := by
  unfold treeZ
  rw [Array.getElem?_append_left (by simp)]; rfl
theorem treeZ_seed (b : Bool) (s : ByteArray) : (treeZ b s)[1]? = some (.string s) := by
  unfold treeZ
  rw [Array.getElem?_append_left (by simp)]; rfl
theorem TreeM.start {W : World} {g : Nat} {seed : ByteArray} (h : Row W g 47 (treeZ true seed)) : TreeM W g seed (keysM seed 0) zeroL := by
  have z : ∀ j, j < 288 → W.cell? ⟨g, 2 + j, none⟩ = some (.int .u8 0) := fun j hj => by
    have := h.cell (2 + j)
    rw [treeZ_get true seed j hj] at this
    exact this
  have z0 : ∀ j, j < 32 → zeroL.getD j 0 = 0 := fun j hj => by
    unfold zeroL
    rw [List.getD_eq_getElem?_getD, List.getElem?_replicate, if_pos hj]; rfl
  refine ⟨(h.cell 0).trans (treeZ_made _ _), (h.cell 1).trans (treeZ_seed _ _), ?_, fun j hj => ?_, fun j hj => ⟨by rw [z j hj]; rfl, h.free _⟩, h.lt⟩
  · intro i hi
    rw [keysM_length] at hi
    refine ⟨_, rfl, by show g < g + 1; omega, fun j hj => ?_⟩
    rw [Addr.add_mid, keysM_get _ _ _ hi, if_neg (by omega), z0 j hj]
    exact z _ (by omega)
  · rw [z0 j hj, show 258 + j = 2 + (256 + j) by omega]
    exact z _ (by omega)
/-- What the program holds of a tree. -/
def treeR (W : World) (v : Value) (seed : ByteArray) : Prop := ∃ g, v = .pointer (some ⟨g, 0, none⟩) ∧ TreeM W g seed (keysF seed) (rootF seed)
theorem treeR.next {W W1 : World} {v : Value} {seed : ByteArray} (h : treeR W v seed) (hb : Below W.heap.size W W1) : treeR W1 v seed := by
  obtain ⟨g, e, h⟩ := h
  exact ⟨g, e, h.next hb⟩
end Go.Proofs.YtgnkdkehooagpaaDoor
namespace Go.Proofs.YtgnkdkehooagpaaDoor
open Go.RowKit Go.Great
set_option linter.unusedVariables false
set_option maxRecDepth 100000

set_option maxHeartbeats 1000000 in
theorem isKey8_any (x : Int) (w : World) : Calls Tryd.prog 24 #[.int .i64 x] w fun e w' => e = .returned (.bool (decide (0 ≤ x ∧ x < 8))) ∧ w = w' := by
  by_cases h1 : 0 ≤ x
  · have d1 : decide (0 ≤ x) = true := decide_eq_true h1
    by_cases h2 : x < 8
    · have d2 : decide (x < 8) = true := decide_eq_true h2
      have d3 : decide (0 ≤ x ∧ x < 8) = true := decide_eq_true ⟨h1, h2⟩
      rw [d3]
      go_enter Tryd.func24, Tryd.ntmps24
      go_wp2
      go_ret
      exact ⟨rfl, rfl⟩
    · have d2 : decide (x < 8) = false := decide_eq_false h2
      have d3 : decide (0 ≤ x ∧ x < 8) = false := decide_eq_false (fun h => h2 h.2)
      rw [d3]
      go_enter Tryd.func24, Tryd.ntmps24
      go_wp2
      go_ret
      exact ⟨rfl, rfl⟩
  · have d1 : decide (0 ≤ x) = false := decide_eq_false h1
    have d3 : decide (0 ≤ x ∧ x < 8) = false := decide_eq_false (fun h => h1 h.1)
    rw [d3]
    go_enter Tryd.func24, Tryd.ntmps24
    go_wp2
    go_ret
    exact ⟨rfl, rfl⟩
theorem isKey8_yes (x : Int) (h : 0 ≤ x ∧ x < 8) (w : World) : Calls Tryd.prog 24 #[.int .i64 x] w fun e w' => e = .returned (.bool true) ∧ w = w' := by
  have := isKey8_any x w
  rwa [decide_eq_true h] at this
theorem isKey8_no (x : Int) (h : x < 0 ∨ 7 < x) (w : World) : Calls Tryd.prog 24 #[.int .i64 x] w fun e w' => e = .returned (.bool false) ∧ w = w' := by
  have := isKey8_any x w
  rwa [decide_eq_false (by omega)] at this
set_option maxHeartbeats 1000000 in
theorem isNone_nil (w : World) : Calls Tryd.prog 22 #[.pointer none] w fun e w' => e = .returned (.bool true) ∧ w = w' := by
  go_enter Tryd.func22, Tryd.ntmps22
  go_wp2
  go_ret
  exact ⟨rfl, rfl⟩
set_option maxHeartbeats 1000000 in
theorem isNone_at (g : Nat) (b : Bool) (w : World) (h : w.cell? ⟨g, 0, none⟩ = some (.bool b)) : Calls Tryd.prog 22 #[.pointer (some ⟨g, 0, none⟩)] w fun e w' => e = .returned (.bool (!b)) ∧ w = w' := by
  go_enter Tryd.func22, Tryd.ntmps22
  go_wp2
  go_ret
  exact ⟨rfl, rfl⟩
end Go.Proofs.YtgnkdkehooagpaaDoor
