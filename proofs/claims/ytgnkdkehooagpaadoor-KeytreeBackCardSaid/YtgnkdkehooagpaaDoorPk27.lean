/-
  Several texts in one (a claim has room for 60 files): KeyVer, KeyProg, ShaFast, ShaMsg.
-/
import Derived.Test.YtgnkdkehooagpaaDoorPk08
import Derived.Test.YtgnkdkehooagpaaDoorPk23
import Derived.Test.YtgnkdkehooagpaaDoorPk26
import Derived.Test.YtgnkdkehooagpaaDoorPk21
import Derived.Test.YtgnkdkehooagpaaDoorPk16
import Derived.Test.YtgnkdkehooagpaaDoorPk17
import Derived.Test.YtgnkdkehooagpaaDoorPk25
import Derived.Test.YtgnkdkehooagpaaDoorPk05
import Derived.Test.YtgnkdkehooagpaaDoorPk04
import Derived.KernelRfl
namespace Go.Proofs.YtgnkdkehooagpaaDoor
open Go.RowKit Go.Great
set_option linter.unusedVariables false
set_option maxRecDepth 100000

attribute [local go_sem ↓ high] read_at write_at read_s write_s
set_option maxHeartbeats 4000000 in
theorem keyver_any (root d : List Int) (hr : root.length = 32 ∧ bytes root) (hd : d.length = 32 ∧ bytes d) (i : Int) (h64 : num64 i) (s : ByteArray) (hs : s.size ≤ maxLen) (p : List (List Int)) (hp : hashes p) (A : Option Addr) (c : Nat) (w : World) (hT : Tab w) (hA : HW w A p) (hc : p.length ≤ c) (hcm : c ≤ maxLen) :
    Calls Tryd.prog 15 #[.agg (nums .u8 root), .agg (nums .u8 d), .agg (sealV i s A p.length c)] w fun e w' => e = .returned (.int .i64 (verF root d i s p)) ∧ Below w.heap.size w w' := by
  obtain ⟨n, hn⟩ : ∃ n, Hid (n = p.length) := ⟨_, Lib.hid rfl⟩
  obtain ⟨R, hR⟩ : ∃ R, Hid (R = nums .u8 root) := ⟨_, Lib.hid rfl⟩
  obtain ⟨D, hD⟩ : ∃ D, Hid (D = nums .u8 d) := ⟨_, Lib.hid rfl⟩
  have zR : Hid (R.size = 32) := Lib.hid (by rw [hR.out, nums_size]; exact hr.1)
  have zD : Hid (D.size = 32) := Lib.hid (by rw [hD.out, nums_size]; exact hd.1)
  have H0 := Lib.hid (VfH.start w R D (sealV i s A n c))
  rw [← hn.out, ← hR.out, ← hD.out]
  by_cases h : i < 0 ∨ 7 < i
  · have HV : Hid (verF root d i s p = 2) := Lib.hid (verF_arg h)
    rw [HV.out]
    have KY : Hid (∀ W, Calls Tryd.prog 24 #[.int .i64 i] W fun e w' => e = .returned (.bool false) ∧ W = w') := Lib.hid fun W => isKey8_no i h W
    clear h hr hd h64 hs hp hA hc hcm hn hR hD hT
    go_enter Tryd.func15, Tryd.ntmps15
    go_upto_region 1 with fail
    refine world_gen (fun X => VfH w X R D (sealV i s A n c)) H0.out (fun X HX => ?_)
    have HX := Lib.hid HX
    obtain ⟨c0, c1, c2⟩ := seal_cells HX.out.seal_
    go_wp2_with (go_at_call 24; (with_reducible refine (KY.out _).mono ?_); rintro e w1 ⟨rfl, rfl⟩)
    go_ret
    exact ⟨rfl, HX.out.below⟩
  · have KY : Hid (∀ W, Calls Tryd.prog 24 #[.int .i64 i] W fun e w' => e = .returned (.bool true) ∧ W = w') := Lib.hid fun W => isKey8_yes i (by omega) W
    have HT := Lib.hid hT
    obtain ⟨I, hI⟩ : ∃ I : Nat, i = I := ⟨i.toNat, by omega⟩
    have HVF : Hid (verF root d i s p = if (recF s d).2 = 0 ∧ checkF (recF s d).1 i 8 p root = 0 then 0 else 81) := Lib.hid (by rw [hI]; exact verF_in (by omega))
    obtain ⟨x, hx⟩ : ∃ x, Hid (x = (recF s d).1) := ⟨_, Lib.hid rfl⟩
    obtain ⟨e1, he1⟩ : ∃ e, Hid (e = (recF s d).2) := ⟨_, Lib.hid rfl⟩
    obtain ⟨X1, hX1⟩ : ∃ X, Hid (X = nums .u8 x) := ⟨_, Lib.hid rfl⟩
    have hx32 : Hid (x.length = 32 ∧ bytes x) := Lib.hid (by rw [hx.out]; exact recF_is _ _)
    have zX : Hid (X1.size = 32) := Lib.hid (by rw [hX1.out, nums_size]; exact hx32.out.1)
    have oX : Hid (X1.all (·.oneCell') = true) := Lib.hid (by rw [hX1.out]; exact nums_one _ _)
    obtain ⟨e2, he2⟩ : ∃ e, Hid (e = checkF x i 8 p root) := ⟨_, Lib.hid rfl⟩
    have XR : Hid (∀ W, Tab W → Calls Tryd.prog 30 #[.string s, .agg D] W fun e w' => e = .returned (.tuple #[.agg X1, .int .i64 e1]) ∧ Below W.heap.size W w') := Lib.hid fun W hW => by
      rw [hD.out, hX1.out, hx.out, he1.out]; exact lrecover_any s d W hW hs hd
    have XC : Hid (∀ W, Tab W → Below w.heap.size w W → Calls Tryd.prog 31 #[.agg X1, .int .i64 i, .int .i64 8, .slice A n c, .agg R] W fun e w' => e = .returned (.int .i64 e2) ∧ Below W.heap.size W w') := Lib.hid fun W hW hB => by
      rw [hX1.out, hR.out, he2.out, hn.out]; exact check_any x root hx32.out hr i 8 h64 (by omega) p hp A c W (hA.next hB) hW hc (by unfold maxLen at hcm; omega)
    have HV : Hid (verF root d i s p = if e1 = 0 ∧ e2 = 0 then 0 else 81) := Lib.hid (by rw [HVF.out, ← hx.out, ← he1.out, ← he2.out])
    rw [HV.out]
    clear h hr hd h64 hs hp hA hc hcm hn hR hD hI HVF HV hx he1 he2 hX1 hT
    by_cases q1 : e1 = 0
    · have b1 : (e1 != 0) = false := by simpa using q1
      by_cases q2 : e2 = 0
      · have b2 : (e2 != 0) = false := by simpa using q2
        rw [if_pos ⟨q1, q2⟩]
        clear q1 q2
        go_enter Tryd.func15, Tryd.ntmps15
        go_upto_region 1 with fail
        refine world_gen (fun X => VfH w X R D (sealV i s A n c)) H0.out (fun X HX => ?_)
        have HX := Lib.hid HX
        obtain ⟨c0, c1, c2⟩ := seal_cells HX.out.seal_
        have l1 := HX.out.dig.read zD.out
        go_upto_region 4 with (first
          | (go_at_call 24; (with_reducible refine (KY.out _).mono ?_); rintro e w0 ⟨rfl, rfl⟩)
          | (go_at_call 30; (with_reducible refine (XR.out _ (HT.out.next HX.out.below)).mono ?_); rintro e w1 ⟨rfl, hb⟩; obtain ⟨w2, s2, hr2, hb2, hz2⟩ := made_write w1 X1 zX.out oX.out; have H2 := Lib.hid ((HX.out.next hb).next hb2); have HR2 := Lib.hid hr2; clear hr2 hb2 hz2 hb))
        clear s2 l1 c0 c1 c2 HX H0
        obtain ⟨c0, c1, c2⟩ := seal_cells H2.out.seal_
        have l2 := HR2.out.read zX.out
        have l3 := H2.out.root.read zR.out
        go_wp2_with (go_at_call 31; (with_reducible refine (XC.out _ (HT.out.next H2.out.below) H2.out.below).mono ?_); rintro e w3 ⟨rfl, hb⟩; have H3 := Lib.hid (H2.out.next hb); clear hb)
        go_ret
        exact ⟨rfl, H3.out.below⟩
      · have b2 : (e2 != 0) = true := by simpa using q2
        rw [if_neg (fun h => q2 h.2)]
        clear q1 q2
        go_enter Tryd.func15, Tryd.ntmps15
        go_upto_region 1 with fail
        refine world_gen (fun X => VfH w X R D (sealV i s A n c)) H0.out (fun X HX => ?_)
        have HX := Lib.hid HX
        obtain ⟨c0, c1, c2⟩ := seal_cells HX.out.seal_
        have l1 := HX.out.dig.read zD.out
        go_upto_region 4 with (first
          | (go_at_call 24; (with_reducible refine (KY.out _).mono ?_); rintro e w0 ⟨rfl, rfl⟩)
          | (go_at_call 30; (with_reducible refine (XR.out _ (HT.out.next HX.out.below)).mono ?_); rintro e w1 ⟨rfl, hb⟩; obtain ⟨w2, s2, hr2, hb2, hz2⟩ := made_write w1 X1 zX.out oX.out; have H2 := Lib.hid ((HX.out.next hb).next hb2); have HR2 := Lib.hid hr2; clear hr2 hb2 hz2 hb))
        clear s2 l1 c0 c1 c2 HX H0
        obtain ⟨c0, c1, c2⟩ := seal_cells H2.out.seal_
        have l2 := HR2.out.read zX.out
        have l3 := H2.out.root.read zR.out
        go_wp2_with (go_at_call 31; (with_reducible refine (XC.out _ (HT.out.next H2.out.below) H2.out.below).mono ?_); rintro e w3 ⟨rfl, hb⟩; have H3 := Lib.hid (H2.out.next hb); clear hb)
        go_ret
        exact ⟨rfl, H3.out.below⟩
    · have b1 : (e1 != 0) = true := by simpa using q1
      rw [if_neg (fun h => q1 h.1)]
      clear q1
      go_enter Tryd.func15, Tryd.ntmps15
      go_upto_region 1 with fail
      refine world_gen (fun X => VfH w X R D (sealV i s A n c)) H0.out (fun X HX => ?_)
      have HX := Lib.hid HX
      obtain ⟨c0, c1, c2⟩ := seal_cells HX.out.seal_
      have l1 := HX.out.dig.read zD.out
      go_upto_region 4 with (first
          | (go_at_call 24; (with_reducible refine (KY.out _).mono ?_); rintro e w0 ⟨rfl, rfl⟩)
          | (go_at_call 30; (with_reducible refine (XR.out _ (HT.out.next HX.out.below)).mono ?_); rintro e w1 ⟨rfl, hb⟩; obtain ⟨w2, s2, hr2, hb2, hz2⟩ := made_write w1 X1 zX.out oX.out; have H2 := Lib.hid ((HX.out.next hb).next hb2); have HR2 := Lib.hid hr2; clear hr2 hb2 hz2 hb))
      clear s2 l1 c0 c1 c2 HX H0
      go_wp2
      go_ret
      exact ⟨rfl, H2.out.below⟩
end Go.Proofs.YtgnkdkehooagpaaDoor
namespace Go.Proofs.YtgnkdkehooagpaaDoor
open Go.RowKit Go.Great
set_option linter.unusedVariables false
set_option maxRecDepth 100000

theorem tree_says : TreeSays treeR where
  next := fun h hb => h.next hb
  new_ := fun seed W hT hs => keynew_any seed W hT hs
  root := fun seed v W hT hv hs => by
    obtain ⟨g, rfl, hM⟩ := hv
    exact keyroot_some g seed (keysF seed) (rootF seed) (rootF_is seed).1 W hM
  sign := fun seed v i d W hT hv hs hi hd => by
    obtain ⟨g, rfl, hM⟩ := hv
    exact keysign_some g seed hs i hi d hd W hT hM
  ver := fun root d i s p A c W hT hr hd hi hs hp hA hc hcm => keyver_any root d hr hd i hi s hs p hp A c W hT hA hc hcm
theorem none_says (v : Value) (OK : World → Prop) (hn : ∀ {W W1 : World}, OK W → Below W.heap.size W W1 → OK W1) (h : ∀ W, OK W → Calls Tryd.prog 22 #[v] W fun e w' => e = .returned (.bool true) ∧ W = w') : NoneSays v OK := fun i d W hW hi hd =>
  ⟨keysign_none v i d hd W (fun X hX => h X (hn hW hX)), keyroot_none v W (fun X hX => h X (hn hW hX))⟩
theorem none_nil : NoneSays (.pointer none) (fun _ => True) := none_says _ _ (fun _ _ => trivial) (fun W _ => isNone_nil W)
theorem none_zero (g : Nat) : NoneSays (.pointer (some ⟨g, 0, none⟩)) (fun W => Row W g 47 (treeZ false ⟨#[]⟩)) := none_says _ _ (fun h hb => h.next hb) (fun W h => isNone_at g false W ((h.cell 0).trans (treeZ_made _ _)))
end Go.Proofs.YtgnkdkehooagpaaDoor
namespace Go.Proofs.YtgnkdkehooagpaaDoor
open Go.RowKit
set_option linter.unusedVariables false
set_option maxRecDepth 100000

namespace Fast
/-- A number is computed, then what goes on with it. -/
def force {α : Type} (v : Nat) (k : Nat → α) : α := Nat.rec (motive := fun _ => α) (k 0) (fun m _ => k (Nat.succ m)) v
theorem force_eq {α : Type} (v : Nat) (k : Nat → α) : force v k = k v := by cases v <;> rfl
def kC : Nat := 0x428a2f9871374491b5c0fbcfe9b5dba53956c25b59f111f1923f82a4ab1c5ed5d807aa9812835b01243185be550c7dc372be5d7480deb1fe9bdc06a7c19bf174e49b69c1efbe47860fc19dc6240ca1cc2de92c6f4a7484aa5cb0a9dc76f988da983e5152a831c66db00327c8bf597fc7c6e00bf3d5a7914706ca63511429296727b70a852e1b21384d2c6dfc53380d13650a7354766a0abb81c2c92e92722c85a2bfe8a1a81a664bc24b8b70c76c51a3d192e819d6990624f40e3585106aa07019a4c1161e376c082748774c34b0bcb5391c0cb34ed8aa4a5b9cca4f682e6ff3748f82ee78a5636f84c878148cc7020890befffaa4506cebbef9a3f7c67178f2
def hC : Nat := 0x6a09e667bb67ae853c6ef372a54ff53a510e527f9b05688c1f83d9ab5be0cd19
def sig0 (x : Nat) : Nat := Nat.mod (Nat.xor (Nat.xor (Nat.div x 4) (Nat.div x 8192)) (Nat.div x 4194304)) 4294967296
def sig1 (x : Nat) : Nat := Nat.mod (Nat.xor (Nat.xor (Nat.div x 64) (Nat.div x 2048)) (Nat.div x 33554432)) 4294967296
def gam0 (x : Nat) : Nat := Nat.mod (Nat.xor (Nat.xor (Nat.div (Nat.mul x 4294967297) 128) (Nat.div (Nat.mul x 4294967297) 262144)) (Nat.div x 8)) 4294967296
def gam1 (x : Nat) : Nat := Nat.mod (Nat.xor (Nat.xor (Nat.div (Nat.mul x 4294967297) 131072) (Nat.div (Nat.mul x 4294967297) 524288)) (Nat.div x 1024)) 4294967296
def kAt (n : Nat) : Nat := Nat.mod (Nat.shiftRight kC (Nat.mul 32 n)) 4294967296
def step1 (a b c d e f g h k w : Nat) (go : Nat → Nat → Nat) : Nat :=
  force (Nat.add (Nat.add (Nat.add h (sig1 (Nat.mul e 4294967297))) (Nat.xor g (Nat.land e (Nat.xor f g)))) (Nat.add k w)) fun t1 =>
  force (Nat.mod (Nat.add d t1) 4294967296) fun e' =>
  force (Nat.mod (Nat.add t1 (Nat.add (sig0 (Nat.mul a 4294967297)) (Nat.lor (Nat.land a b) (Nat.land c (Nat.lor a b))))) 4294967296) fun a' => go a' e'
/-- n rounds more, with a window of sixteen words. -/
def rounds : Nat → Nat → Nat → Nat → Nat → Nat → Nat → Nat → Nat → Nat → (Nat → Nat → Nat → Nat → Nat → Nat → Nat → Nat → Nat) → Nat :=
  @Nat.rec (fun _ => Nat → Nat → Nat → Nat → Nat → Nat → Nat → Nat → Nat → (Nat → Nat → Nat → Nat → Nat → Nat → Nat → Nat → Nat) → Nat)
    (fun _ a b c d e f g h go => go a b c d e f g h)
    (fun n ih M a b c d e f g h go =>
      force (Nat.div M 3121748550315992231381597229793166305748598142664971150859156959625371738819765620120306103063491971159826931121406622895447975679288285306290176) fun w =>
      force (Nat.add (Nat.mul (Nat.mod M 3121748550315992231381597229793166305748598142664971150859156959625371738819765620120306103063491971159826931121406622895447975679288285306290176) 4294967296)
        (Nat.mod (Nat.add (Nat.add w (gam0 (Nat.mod (Nat.div M 726838724295606890549323807888004534353641360687318060281490199180639288113397923326191050713763565560762521606266177933534601628614656) 4294967296))) (Nat.add (Nat.mod (Nat.div M 6277101735386680763835789423207666416102355444464034512896) 4294967296) (gam1 (Nat.mod (Nat.div M 4294967296) 4294967296)))) 4294967296)) fun M' =>
      step1 a b c d e f g h (kAt n) w fun a' e' => ih M' a' a b c e' e f g go)
theorem rounds_succ (n M a b c d e f g h : Nat) (go : Nat → Nat → Nat → Nat → Nat → Nat → Nat → Nat → Nat) : rounds (n + 1) M a b c d e f g h go =
      force (Nat.div M 3121748550315992231381597229793166305748598142664971150859156959625371738819765620120306103063491971159826931121406622895447975679288285306290176) fun w =>
      force (Nat.add (Nat.mul (Nat.mod M 3121748550315992231381597229793166305748598142664971150859156959625371738819765620120306103063491971159826931121406622895447975679288285306290176) 4294967296)
        (Nat.mod (Nat.add (Nat.add w (gam0 (Nat.mod (Nat.div M 726838724295606890549323807888004534353641360687318060281490199180639288113397923326191050713763565560762521606266177933534601628614656) 4294967296))) (Nat.add (Nat.mod (Nat.div M 6277101735386680763835789423207666416102355444464034512896) 4294967296) (gam1 (Nat.mod (Nat.div M 4294967296) 4294967296)))) 4294967296)) fun M' =>
      step1 a b c d e f g h (kAt n) w fun a' e' => rounds n M' a' a b c e' e f g go := rfl
def w8 (s d : Nat) : Nat := Nat.mod (Nat.div s d) 4294967296
def glue (a b c d e f g h : Nat) : Nat := Nat.add (Nat.mul (Nat.add (Nat.mul (Nat.add (Nat.mul (Nat.add (Nat.mul (Nat.add (Nat.mul (Nat.add (Nat.mul (Nat.add (Nat.mul a 4294967296) b) 4294967296) c) 4294967296) d) 4294967296) e) 4294967296) f) 4294967296) g) 4294967296) h
def plus (x y : Nat) : Nat := Nat.mod (Nat.add x y) 4294967296
def compress (S M : Nat) : Nat :=
  force (w8 S 26959946667150639794667015087019630673637144422540572481103610249216) fun a => force (w8 S 6277101735386680763835789423207666416102355444464034512896) fun b => force (w8 S 1461501637330902918203684832716283019655932542976) fun c => force (w8 S 340282366920938463463374607431768211456) fun d =>
  force (w8 S 79228162514264337593543950336) fun e => force (w8 S 18446744073709551616) fun f => force (w8 S 4294967296) fun g => force (w8 S 1) fun h =>
  rounds 64 M a b c d e f g h fun a' b' c' d' e' f' g' h' => glue (plus a a') (plus b b') (plus c c') (plus d d') (plus e e') (plus f f') (plus g g') (plus h h')
theorem compress_abc : compress hC 5122334412330459399087310195024990253432806062213163990612283009264345386867389268571063120472391116021128437105286127119105716142541098188224986085392408 % 1 = 0 := by kernel_rfl

/-! The eight numbers as natural ones. -/
structure N8 where
  (a b c d e f g h : Nat)
def N8.st (s : N8) : Sha.St := ⟨s.a, s.b, s.c, s.d, s.e, s.f, s.g, s.h⟩
def N8.ok (s : N8) : Prop := s.a < 4294967296 ∧ s.b < 4294967296 ∧ s.c < 4294967296 ∧ s.d < 4294967296 ∧ s.e < 4294967296 ∧ s.f < 4294967296 ∧ s.g < 4294967296 ∧ s.h < 4294967296
def tN (s : N8) (k w : Nat) : Nat := s.h + sig1 (s.e * 4294967297) + (s.g ^^^ (s.e &&& (s.f ^^^ s.g))) + (k + w)
def N8.step (s : N8) (k w : Nat) : N8 := ⟨(tN s k w + (sig0 (s.a * 4294967297) + ((s.a &&& s.b) ||| (s.c &&& (s.a ||| s.b))))) % 4294967296, s.a, s.b, s.c, (s.d + tN s k w) % 4294967296, s.e, s.f, s.g⟩
theorem N8.step_ok (s : N8) (k w : Nat) (h : s.ok) : (s.step k w).ok := ⟨Nat.mod_lt _ (by decide), h.1, h.2.1, h.2.2.1, Nat.mod_lt _ (by decide), h.2.2.2.2.1, h.2.2.2.2.2.1, h.2.2.2.2.2.2.1⟩
theorem step1_eq (s : N8) (k w : Nat) (go : Nat → Nat → Nat) : step1 s.a s.b s.c s.d s.e s.f s.g s.h k w go = go (s.step k w).a (s.step k w).e := by
  unfold step1
  rw [force_eq, force_eq, force_eq]
  rfl
/-- Sixteen words, one behind the other. -/
def hor (f : Nat → Nat) : Nat → Nat
  | 0 => 0
  | m + 1 => hor f m * 4294967296 + f m
def win (f : Nat → Nat) (t : Nat) : Nat := hor (fun i => f (t + i)) 16
theorem win_is (f : Nat → Nat) (t : Nat) : win f t = (((((((((((((((f t * 4294967296 + f (t + 1)) * 4294967296 + f (t + 2)) * 4294967296 + f (t + 3)) * 4294967296 + f (t + 4)) * 4294967296 + f (t + 5)) * 4294967296 + f (t + 6)) * 4294967296 + f (t + 7)) * 4294967296 + f (t + 8)) * 4294967296 + f (t + 9)) * 4294967296 + f (t + 10)) * 4294967296 + f (t + 11)) * 4294967296 + f (t + 12)) * 4294967296 + f (t + 13)) * 4294967296 + f (t + 14)) * 4294967296 + f (t + 15)) := by
  simp only [win, hor, Nat.zero_mul, Nat.zero_add, Nat.add_zero]
theorem cut2 (x y q : Nat) (hy : y < 4294967296) : (x * 4294967296 + y) / (4294967296 * q) = x / q := by
  rw [← Nat.div_div_eq_div_mul, show (x * 4294967296 + y) / 4294967296 = x by omega]
theorem mod_hor (x y q : Nat) (hq : 0 < q) (hy : y < 4294967296) : (x * 4294967296 + y) % (4294967296 * q) = (x % q) * 4294967296 + y := by
  rw [Nat.mod_mul, show (x * 4294967296 + y) % 4294967296 = y by omega, show (x * 4294967296 + y) / 4294967296 = x by omega]; omega
theorem hor_div (g : Nat → Nat) (hg : ∀ i, g i < 4294967296) (m : Nat) : ∀ k, hor g (m + k) / 4294967296 ^ k = hor g m := by
  intro k
  induction k with
  | zero => rw [Nat.add_zero, Nat.pow_zero, Nat.div_one]
  | succ k ih =>
    rw [Nat.pow_succ, Nat.mul_comm (4294967296 ^ k), ← Nat.add_assoc]
    show (hor g (m + k) * 4294967296 + g (m + k)) / _ = _
    rw [cut2 _ _ _ (hg _), ih]
theorem hor_at (g : Nat → Nat) (hg : ∀ i, g i < 4294967296) (m k : Nat) : hor g (m + 1 + k) / 4294967296 ^ k % 4294967296 = g m := by
  rw [hor_div g hg (m + 1) k]
  show (hor g m * 4294967296 + g m) % _ = _
  have := hg m; omega
theorem hor_shift (g : Nat → Nat) (hg : ∀ i, g i < 4294967296) : ∀ m, hor g (m + 1) % 4294967296 ^ m = hor (fun i => g (i + 1)) m := by
  intro m
  induction m with
  | zero => simp [hor, Nat.mod_one]
  | succ m ih =>
    show (hor g (m + 1) * 4294967296 + g (m + 1)) % _ = hor (fun i => g (i + 1)) m * 4294967296 + g (m + 1)
    rw [Nat.pow_succ, Nat.mul_comm (4294967296 ^ m), mod_hor _ _ _ (Nat.pow_pos (by decide)) (hg _), ih]
section
variable (f : Nat → Nat) (hf : ∀ i, f i < 4294967296) (t : Nat)
include hf
theorem win_0 : win f t / 3121748550315992231381597229793166305748598142664971150859156959625371738819765620120306103063491971159826931121406622895447975679288285306290176 = f t := by
  have := hor_div (fun i => f (t + i)) (fun i => hf _) 1 15
  rw [show 4294967296 ^ 15 = 3121748550315992231381597229793166305748598142664971150859156959625371738819765620120306103063491971159826931121406622895447975679288285306290176 by decide +kernel] at this
  unfold win; rw [this]; simp [hor]
theorem win_1 : win f t / 726838724295606890549323807888004534353641360687318060281490199180639288113397923326191050713763565560762521606266177933534601628614656 % 4294967296 = f (t + 1) := by
  have := hor_at (fun i => f (t + i)) (fun i => hf _) 1 14
  rwa [show 4294967296 ^ 14 = 726838724295606890549323807888004534353641360687318060281490199180639288113397923326191050713763565560762521606266177933534601628614656 by decide +kernel] at this
theorem win_9 : win f t / 6277101735386680763835789423207666416102355444464034512896 % 4294967296 = f (t + 9) := by
  have := hor_at (fun i => f (t + i)) (fun i => hf _) 9 6
  rwa [show 4294967296 ^ 6 = 6277101735386680763835789423207666416102355444464034512896 by decide +kernel] at this
theorem win_14 : win f t / 4294967296 % 4294967296 = f (t + 14) := by
  have := hor_at (fun i => f (t + i)) (fun i => hf _) 14 1
  rwa [show 4294967296 ^ 1 = 4294967296 by decide +kernel] at this
theorem win_next : win f t % 3121748550315992231381597229793166305748598142664971150859156959625371738819765620120306103063491971159826931121406622895447975679288285306290176 * 4294967296 + f (t + 16) = win f (t + 1) := by
  have := hor_shift (fun i => f (t + i)) (fun i => hf _) 15
  rw [show 4294967296 ^ 15 = 3121748550315992231381597229793166305748598142664971150859156959625371738819765620120306103063491971159826931121406622895447975679288285306290176 by decide +kernel] at this
  unfold win
  rw [this]
  show _ = hor (fun i => f (t + 1 + i)) 15 * 4294967296 + f (t + 1 + 15)
  rw [show (fun i => f (t + (i + 1))) = fun i => f (t + 1 + i) from funext fun i => by rw [show t + (i + 1) = t + 1 + i by omega]]
end
/-- Rounds, from any on: what goes on is told the last numbers. -/
theorem rounds_eq (f : Nat → Nat) (hf : ∀ i, f i < 4294967296) (hr : ∀ t, f (t + 16) = (f t + gam0 (f (t + 1)) + (f (t + 9) + gam1 (f (t + 14)))) % 4294967296) (N : Nat → N8) (hN : ∀ t, t < 64 → N (t + 1) = (N t).step (kAt (63 - t)) (f t))
    (go : Nat → Nat → Nat → Nat → Nat → Nat → Nat → Nat → Nat) : ∀ n t, t + n = 64 → rounds n (win f t) (N t).a (N t).b (N t).c (N t).d (N t).e (N t).f (N t).g (N t).h go = go (N 64).a (N 64).b (N 64).c (N 64).d (N 64).e (N 64).f (N 64).g (N 64).h
  | 0, t, h => by
    obtain rfl : t = 64 := by omega
    rfl
  | n + 1, t, h => by
    have ih := rounds_eq f hf hr N hN go n (t + 1) (by omega)
    rw [rounds_succ, force_eq, show Nat.div (win f t) 3121748550315992231381597229793166305748598142664971150859156959625371738819765620120306103063491971159826931121406622895447975679288285306290176 = f t from win_0 f hf t, force_eq]
    have hM : Nat.add (Nat.mul (Nat.mod (win f t) 3121748550315992231381597229793166305748598142664971150859156959625371738819765620120306103063491971159826931121406622895447975679288285306290176) 4294967296)
        (Nat.mod (Nat.add (Nat.add (f t) (gam0 (Nat.mod (Nat.div (win f t) 726838724295606890549323807888004534353641360687318060281490199180639288113397923326191050713763565560762521606266177933534601628614656) 4294967296))) (Nat.add (Nat.mod (Nat.div (win f t) 6277101735386680763835789423207666416102355444464034512896) 4294967296) (gam1 (Nat.mod (Nat.div (win f t) 4294967296) 4294967296)))) 4294967296) = win f (t + 1) := by
      rw [← win_next f hf t, hr t, ← win_1 f hf t, ← win_9 f hf t, ← win_14 f hf t]; rfl
    rw [hM, show n = 63 - t by omega, step1_eq, ← hN t (by omega), show 63 - t = n by omega]
    have e : N (t + 1) = _ := hN t (by omega)
    have eb : (N t).a = (N (t + 1)).b := by rw [e]; rfl
    have ec : (N t).b = (N (t + 1)).c := by rw [e]; rfl
    have ed : (N t).c = (N (t + 1)).d := by rw [e]; rfl
    have ef : (N t).e = (N (t + 1)).f := by rw [e]; rfl
    have eg : (N t).f = (N (t + 1)).g := by rw [e]; rfl
    have eh : (N t).g = (N (t + 1)).h := by rw [e]; rfl
    rw [eb, ec, ed, ef, eg, eh]
    exact ih

/-! The other texts' functions, on natural numbers. -/
theorem to32 (x : Nat) (h : x < 4294967296) : (BitVec.ofInt 32 (x : Int)).toNat = x := by
  rw [BitVec.toNat_ofInt]; show ((x : Int) % 4294967296).toNat = x; omega
theorem wrap32 (x : Nat) (h : x < 4294967296) : IntKind.u32.wrap (x : Int) = (x : Int) := by rw [IntKind.wrap_u32]; omega
theorem xor_lt {x y : Nat} (hx : x < 4294967296) (hy : y < 4294967296) : x ^^^ y < 4294967296 := Nat.xor_lt_two_pow (n := 32) hx hy
theorem and_lt {x y : Nat} (hy : y < 4294967296) : x &&& y < 4294967296 := Nat.and_lt_two_pow (n := 32) x hy
theorem bxor (x y : Nat) (hx : x < 4294967296) (hy : y < 4294967296) : bits .xor .u32 (x : Int) (y : Int) = ((x ^^^ y : Nat) : Int) := by
  show IntKind.u32.wrap ((BitVec.ofInt 32 (x : Int) ^^^ BitVec.ofInt 32 (y : Int)).toNat : Int) = _
  rw [BitVec.toNat_xor, to32 x hx, to32 y hy, wrap32 _ (xor_lt hx hy)]
theorem band (x y : Nat) (hx : x < 4294967296) (hy : y < 4294967296) : bits .and .u32 (x : Int) (y : Int) = ((x &&& y : Nat) : Int) := by
  show IntKind.u32.wrap ((BitVec.ofInt 32 (x : Int) &&& BitVec.ofInt 32 (y : Int)).toNat : Int) = _
  rw [BitVec.toNat_and, to32 x hx, to32 y hy, wrap32 _ (and_lt hy)]
theorem mod_xor (x y : Nat) : (x ^^^ y) % 4294967296 = x % 4294967296 ^^^ y % 4294967296 := Nat.xor_mod_two_pow (n := 32)
theorem rot_is (x : Nat) (hx : x < 4294967296) (r : Nat) (h0 : 0 < r) (h : r < 32) : Math.rot (x : Int) (-(r : Int)) = ((x * 2 ^ (32 - r) % 4294967296 + x / 2 ^ r : Nat) : Int) := by
  unfold Math.rot
  rw [show ((-(r : Int)) % 32).toNat = 32 - r by omega, Int.toNat_natCast, Math.rotI_eq _ _ (by omega) hx]
  unfold Math.rotC
  rw [show 32 - (32 - r) = r by omega]
theorem turned_lt (x p q : Nat) (hx : x < 4294967296) (h : p * q = 4294967296) (hq : 0 < q) : x * p % 4294967296 + x / q < 4294967296 := by
  have h1 : x / q < p := by rw [Nat.div_lt_iff_lt_mul hq, h]; exact hx
  have h2 : x * p % 4294967296 + p ≤ 4294967296 := by
    rw [← h, Nat.mul_comm p q, Nat.mul_mod_mul_right]
    have : x % q + 1 ≤ q := Nat.mod_lt _ hq
    have := Nat.mul_le_mul_right p this
    rw [Nat.add_mul, Nat.one_mul] at this
    exact this
  omega
theorem rotm (x p q : Nat) (hx : x < 4294967296) (h : p * q = 4294967296) (hq : 0 < q) : x * 4294967297 / q % 4294967296 = x * p % 4294967296 + x / q := by
  have e : x * 4294967297 = q * (x * p) + x := by rw [Nat.mul_comm x p, ← Nat.mul_assoc, Nat.mul_comm q p, h]; omega
  have := turned_lt x p q hx h hq
  rw [e, Nat.mul_add_div hq, Nat.add_mod, Nat.mod_eq_of_lt (show x / q < 4294967296 by omega), Nat.mod_eq_of_lt this]
theorem S1_is (e : Nat) (h : e < 4294967296) : Sha.S1 (e : Int) = ((sig1 (e * 4294967297) : Nat) : Int) := by
  have a1 := rot_is e h 6 (by decide) (by decide)
  have a2 := rot_is e h 11 (by decide) (by decide)
  have a3 := rot_is e h 25 (by decide) (by decide)
  have b1 := turned_lt e (2 ^ (32 - 6)) (2 ^ 6) h (by decide) (by decide)
  have b2 := turned_lt e (2 ^ (32 - 11)) (2 ^ 11) h (by decide) (by decide)
  have b3 := turned_lt e (2 ^ (32 - 25)) (2 ^ 25) h (by decide) (by decide)
  have c : sig1 (e * 4294967297) = (e * 2 ^ (32 - 6) % 4294967296 + e / 2 ^ 6) ^^^ (e * 2 ^ (32 - 11) % 4294967296 + e / 2 ^ 11) ^^^ (e * 2 ^ (32 - 25) % 4294967296 + e / 2 ^ 25) := by
    show ((e * 4294967297 / 64 ^^^ e * 4294967297 / 2048) ^^^ e * 4294967297 / 33554432) % 4294967296 = _
    rw [mod_xor, mod_xor, rotm e (2 ^ (32 - 6)) 64 h (by decide) (by decide), rotm e (2 ^ (32 - 11)) 2048 h (by decide) (by decide), rotm e (2 ^ (32 - 25)) 33554432 h (by decide) (by decide)]
  rw [c]
  unfold Sha.S1
  rw [show (-6 : Int) = -((6 : Nat) : Int) from rfl, show (-11 : Int) = -((11 : Nat) : Int) from rfl, show (-25 : Int) = -((25 : Nat) : Int) from rfl, a1, a2, a3, bxor _ _ b1 b2, bxor _ _ (xor_lt b1 b2) b3]
theorem S0_is (e : Nat) (h : e < 4294967296) : Sha.S0 (e : Int) = ((sig0 (e * 4294967297) : Nat) : Int) := by
  have a1 := rot_is e h 2 (by decide) (by decide)
  have a2 := rot_is e h 13 (by decide) (by decide)
  have a3 := rot_is e h 22 (by decide) (by decide)
  have b1 := turned_lt e (2 ^ (32 - 2)) (2 ^ 2) h (by decide) (by decide)
  have b2 := turned_lt e (2 ^ (32 - 13)) (2 ^ 13) h (by decide) (by decide)
  have b3 := turned_lt e (2 ^ (32 - 22)) (2 ^ 22) h (by decide) (by decide)
  have c : sig0 (e * 4294967297) = (e * 2 ^ (32 - 2) % 4294967296 + e / 2 ^ 2) ^^^ (e * 2 ^ (32 - 13) % 4294967296 + e / 2 ^ 13) ^^^ (e * 2 ^ (32 - 22) % 4294967296 + e / 2 ^ 22) := by
    show ((e * 4294967297 / 4 ^^^ e * 4294967297 / 8192) ^^^ e * 4294967297 / 4194304) % 4294967296 = _
    rw [mod_xor, mod_xor, rotm e (2 ^ (32 - 2)) 4 h (by decide) (by decide), rotm e (2 ^ (32 - 13)) 8192 h (by decide) (by decide), rotm e (2 ^ (32 - 22)) 4194304 h (by decide) (by decide)]
  rw [c]
  unfold Sha.S0
  rw [show (-2 : Int) = -((2 : Nat) : Int) from rfl, show (-13 : Int) = -((13 : Nat) : Int) from rfl, show (-22 : Int) = -((22 : Nat) : Int) from rfl, a1, a2, a3, bxor _ _ b1 b2, bxor _ _ (xor_lt b1 b2) b3]
theorem s0_is (e : Nat) (h : e < 4294967296) : Sha.s0 (e : Int) = ((gam0 e : Nat) : Int) := by
  have a1 := rot_is e h 7 (by decide) (by decide)
  have a2 := rot_is e h 18 (by decide) (by decide)
  have b1 := turned_lt e (2 ^ (32 - 7)) (2 ^ 7) h (by decide) (by decide)
  have b2 := turned_lt e (2 ^ (32 - 18)) (2 ^ 18) h (by decide) (by decide)
  have c : gam0 e = (e * 2 ^ (32 - 7) % 4294967296 + e / 2 ^ 7) ^^^ (e * 2 ^ (32 - 18) % 4294967296 + e / 2 ^ 18) ^^^ (e / 8) := by
    show ((e * 4294967297 / 128 ^^^ e * 4294967297 / 262144) ^^^ e / 8) % 4294967296 = _
    rw [mod_xor, mod_xor, rotm e (2 ^ (32 - 7)) 128 h (by decide) (by decide), rotm e (2 ^ (32 - 18)) 262144 h (by decide) (by decide), show e / 8 % 4294967296 = e / 8 by omega]
  rw [c]
  unfold Sha.s0
  rw [show (-7 : Int) = -((7 : Nat) : Int) from rfl, show (-18 : Int) = -((18 : Nat) : Int) from rfl, a1, a2, show (e : Int) / 8 = ((e / 8 : Nat) : Int) by omega, bxor _ _ b1 b2, bxor _ _ (xor_lt b1 b2) (by omega)]
theorem s1_is (e : Nat) (h : e < 4294967296) : Sha.s1 (e : Int) = ((gam1 e : Nat) : Int) := by
  have a1 := rot_is e h 17 (by decide) (by decide)
  have a2 := rot_is e h 19 (by decide) (by decide)
  have b1 := turned_lt e (2 ^ (32 - 17)) (2 ^ 17) h (by decide) (by decide)
  have b2 := turned_lt e (2 ^ (32 - 19)) (2 ^ 19) h (by decide) (by decide)
  have c : gam1 e = (e * 2 ^ (32 - 17) % 4294967296 + e / 2 ^ 17) ^^^ (e * 2 ^ (32 - 19) % 4294967296 + e / 2 ^ 19) ^^^ (e / 1024) := by
    show ((e * 4294967297 / 131072 ^^^ e * 4294967297 / 524288) ^^^ e / 1024) % 4294967296 = _
    rw [mod_xor, mod_xor, rotm e (2 ^ (32 - 17)) 131072 h (by decide) (by decide), rotm e (2 ^ (32 - 19)) 524288 h (by decide) (by decide), show e / 1024 % 4294967296 = e / 1024 by omega]
  rw [c]
  unfold Sha.s1
  rw [show (-17 : Int) = -((17 : Nat) : Int) from rfl, show (-19 : Int) = -((19 : Nat) : Int) from rfl, a1, a2, show (e : Int) / 1024 = ((e / 1024 : Nat) : Int) by omega, bxor _ _ b1 b2, bxor _ _ (xor_lt b1 b2) (by omega)]
theorem ones_is : Sha.ones = ((4294967295 : Nat) : Int) := by decide
theorem ch_is (e f g : Nat) (he : e < 4294967296) (hf : f < 4294967296) (hg : g < 4294967296) : Sha.ch (e : Int) (f : Int) (g : Int) = ((g ^^^ (e &&& (f ^^^ g)) : Nat) : Int) := by
  unfold Sha.ch
  rw [ones_is, band e f he hf, bxor 4294967295 e (by decide) he, band _ _ (xor_lt (x := 4294967295) (by decide) he) hg, bxor _ _ (and_lt hf) (and_lt hg)]
  congr 1
  refine Nat.eq_of_testBit_eq fun i => ?_
  simp only [Nat.testBit_xor, Nat.testBit_and]
  by_cases hi : i < 32
  · have : (4294967295 : Nat).testBit i = true := by
      rw [show (4294967295 : Nat) = 2 ^ 32 - 1 from rfl, Nat.testBit_two_pow_sub_one]; simpa using hi
    rw [this]
    cases e.testBit i <;> cases f.testBit i <;> cases g.testBit i <;> rfl
  · have z : ∀ x : Nat, x < 4294967296 → x.testBit i = false := fun x hx => Nat.testBit_lt_two_pow (Nat.lt_of_lt_of_le (show x < 2 ^ 32 from hx) (Nat.pow_le_pow_right (n := 2) (by decide) (show 32 ≤ i by omega)))
    rw [z e he, z f hf, z g hg]; simp
theorem maj_is (a b c : Nat) (ha : a < 4294967296) (hb : b < 4294967296) (hc : c < 4294967296) : Sha.maj (a : Int) (b : Int) (c : Int) = (((a &&& b) ||| (c &&& (a ||| b)) : Nat) : Int) := by
  unfold Sha.maj
  rw [band a b ha hb, band a c ha hc, band b c hb hc, bxor _ _ (and_lt hb) (and_lt hc), bxor _ _ (xor_lt (and_lt hb) (and_lt hc)) (and_lt hc)]
  congr 1
  refine Nat.eq_of_testBit_eq fun i => ?_
  simp only [Nat.testBit_xor, Nat.testBit_and, Nat.testBit_or]
  cases a.testBit i <;> cases b.testBit i <;> cases c.testBit i <;> rfl
theorem N8.step_st (s : N8) (h : s.ok) (k w : Nat) : (s.step k w).st = s.st.step (k : Int) (w : Int) := by
  obtain ⟨ha, hb, hc, hd, he, hf, hg, hh⟩ := h
  have e1 : Sha.t1 (s.e : Int) (s.f : Int) (s.g : Int) (s.h : Int) (k : Int) (w : Int) = ((tN s k w % 4294967296 : Nat) : Int) := by
    unfold Sha.t1 tN
    rw [S1_is _ he, ch_is _ _ _ he hf hg]; omega
  have e2 : Sha.t2 (s.a : Int) (s.b : Int) (s.c : Int) = (((sig0 (s.a * 4294967297) + ((s.a &&& s.b) ||| (s.c &&& (s.a ||| s.b)))) % 4294967296 : Nat) : Int) := by
    unfold Sha.t2
    rw [S0_is _ ha, maj_is _ _ _ ha hb hc]; omega
  unfold N8.st Sha.St.step N8.step
  simp only
  rw [e1, e2]
  congr 1 <;> omega
/-! Words, rounds, blocks. -/
theorem sched_more (b : ByteArray) (p n : Nat) : ∀ k i, i < 16 + n → (Sha.sched b p (n + k)).getD i 0 = (Sha.sched b p n).getD i 0 := by
  intro k
  induction k with
  | zero => intro i _; rfl
  | succ k ih =>
    intro i hi
    rw [← ih i hi]
    show (Sha.sched b p (n + k) ++ [_]).getD i 0 = _
    rw [List.getD_eq_getElem?_getD, List.getElem?_append_left (by rw [Sha.sched_length]; omega), ← List.getD_eq_getElem?_getD]
/-- The words of a block, on and on. -/
def wd (b : ByteArray) (p i : Nat) : Nat := ((Sha.sched b p (i + 1)).getD i 0).toNat
theorem wd_lt (b : ByteArray) (p i : Nat) : wd b p i < 4294967296 := by
  have := Sha.sched_small b p (i + 1) i
  unfold wd; omega
theorem wd_at (b : ByteArray) (p n i : Nat) (h : i < 16 + n) : (Sha.sched b p n).getD i 0 = ((wd b p i : Nat) : Int) := by
  have hs := Sha.sched_small b p (i + 1) i
  have e : (Sha.sched b p (i + 1)).getD i 0 = (Sha.sched b p n).getD i 0 := by
    rcases Nat.le_total n (i + 1) with hn | hn
    · obtain ⟨k, hk⟩ := Nat.exists_eq_add_of_le hn
      rw [hk]; exact sched_more b p n k i h
    · obtain ⟨k, hk⟩ := Nat.exists_eq_add_of_le hn
      rw [hk]; exact (sched_more b p (i + 1) k i (by omega)).symm
  unfold wd
  rw [e] at hs ⊢
  omega
theorem wd_next (b : ByteArray) (p t : Nat) : wd b p (t + 16) = (wd b p t + gam0 (wd b p (t + 1)) + (wd b p (t + 9) + gam1 (wd b p (t + 14)))) % 4294967296 := by
  have e := wd_at b p (t + 1) (t + 16) (by omega)
  have e2 : (Sha.sched b p (t + 1)).getD (t + 16) 0 = Sha.more (Sha.sched b p t) := by
    show (Sha.sched b p t ++ [_]).getD (t + 16) 0 = _
    rw [List.getD_eq_getElem?_getD, List.getElem?_append_right (by rw [Sha.sched_length]; omega), Sha.sched_length, show t + 16 - (16 + t) = 0 by omega]; rfl
  have e3 : Sha.more (Sha.sched b p t) = (((wd b p t + gam0 (wd b p (t + 1)) + (wd b p (t + 9) + gam1 (wd b p (t + 14)))) % 4294967296 : Nat) : Int) := by
    unfold Sha.more
    rw [Sha.sched_length, show 16 + t - 16 = t by omega, show 16 + t - 15 = t + 1 by omega, show 16 + t - 7 = t + 9 by omega, show 16 + t - 2 = t + 14 by omega, wd_at b p t t (by omega), wd_at b p t (t + 1) (by omega), wd_at b p t (t + 9) (by omega), wd_at b p t (t + 14) (by omega), s0_is _ (wd_lt _ _ _), s1_is _ (wd_lt _ _ _)]
    omega
  rw [e2, e3] at e
  omega
theorem kAt_ok : ((List.range 64).all fun n => (Ks.getD n 0 == ((kAt (63 - n) : Nat) : Int))) = true := by kernel_rfl
theorem kAt_is (n : Nat) (h : n < 64) : Ks.getD n 0 = ((kAt (63 - n) : Nat) : Int) := by
  have := List.all_eq_true.1 kAt_ok n (by simpa using h)
  exact eq_of_beq this
/-- The eight numbers behind n rounds. -/
def run (b : ByteArray) (p : Nat) (s : N8) : Nat → N8
  | 0 => s
  | n + 1 => (run b p s n).step (kAt (63 - n)) (wd b p n)
theorem run_ok (b : ByteArray) (p : Nat) (s : N8) (h : s.ok) (n : Nat) : (run b p s n).ok := by
  induction n with
  | zero => exact h
  | succ n ih => exact N8.step_ok _ _ _ ih
theorem run_st (b : ByteArray) (p : Nat) (s : N8) (h : s.ok) (n : Nat) (hn : n ≤ 64) : (run b p s n).st = Sha.rnd Ks (Sha.sched b p 48) s.st n := by
  induction n with
  | zero => rfl
  | succ n ih =>
    show ((run b p s n).step _ _).st = Sha.St.step (Sha.rnd Ks (Sha.sched b p 48) s.st n) _ _
    rw [N8.step_st _ (run_ok b p s h n), ih (by omega), ← kAt_is n (by omega), ← wd_at b p 48 n (by omega)]
/-- The eight numbers in one. -/
def N8.num (s : N8) : Nat := glue s.a s.b s.c s.d s.e s.f s.g s.h
theorem num_is (s : N8) : s.num = hor (fun i => [s.a, s.b, s.c, s.d, s.e, s.f, s.g, s.h].getD i 0) 8 := by
  simp [N8.num, glue, hor]
theorem w8_is (s : N8) (h : s.ok) : w8 s.num 26959946667150639794667015087019630673637144422540572481103610249216 = s.a ∧ w8 s.num 6277101735386680763835789423207666416102355444464034512896 = s.b ∧ w8 s.num 1461501637330902918203684832716283019655932542976 = s.c ∧ w8 s.num 340282366920938463463374607431768211456 = s.d ∧ w8 s.num 79228162514264337593543950336 = s.e ∧ w8 s.num 18446744073709551616 = s.f ∧ w8 s.num 4294967296 = s.g ∧ w8 s.num 1 = s.h := by
  obtain ⟨ha, hb, hc, hd, he, hf, hg, hh⟩ := h
  have hs : ∀ i, (fun i => [s.a, s.b, s.c, s.d, s.e, s.f, s.g, s.h].getD i 0) i < 4294967296 := fun i => by
    match i with
    | 0 => exact ha
    | 1 => exact hb
    | 2 => exact hc
    | 3 => exact hd
    | 4 => exact he
    | 5 => exact hf
    | 6 => exact hg
    | 7 => exact hh
    | (n + 8) => simp [List.getD]
  have key : ∀ m k, m + 1 + k = 8 → s.num / 4294967296 ^ k % 4294967296 = [s.a, s.b, s.c, s.d, s.e, s.f, s.g, s.h].getD m 0 := fun m k h => by
    rw [num_is, ← h]; exact hor_at _ hs m k
  exact ⟨key 0 7 rfl, key 1 6 rfl, key 2 5 rfl, key 3 4 rfl, key 4 3 rfl, key 5 2 rfl, key 6 1 rfl, key 7 0 rfl⟩
def N8.plus (s r : N8) : N8 := ⟨(s.a + r.a) % 4294967296, (s.b + r.b) % 4294967296, (s.c + r.c) % 4294967296, (s.d + r.d) % 4294967296, (s.e + r.e) % 4294967296, (s.f + r.f) % 4294967296, (s.g + r.g) % 4294967296, (s.h + r.h) % 4294967296⟩
theorem N8.plus_st (s r : N8) : (s.plus r).st = s.st.plus r.st := by
  unfold N8.plus N8.st Sha.St.plus
  simp only
  congr 1 <;> omega
theorem N8.plus_ok (s r : N8) : (s.plus r).ok := ⟨Nat.mod_lt _ (by decide), Nat.mod_lt _ (by decide), Nat.mod_lt _ (by decide), Nat.mod_lt _ (by decide), Nat.mod_lt _ (by decide), Nat.mod_lt _ (by decide), Nat.mod_lt _ (by decide), Nat.mod_lt _ (by decide)⟩
/-- A block's number. -/
def blkN (b : ByteArray) (p : Nat) : Nat := win (wd b p) 0
theorem compress_n8 (s : N8) (h : s.ok) (b : ByteArray) (p : Nat) : compress s.num (blkN b p) = (s.plus (run b p s 64)).num := by
  obtain ⟨h1, h2, h3, h4, h5, h6, h7, h8⟩ := w8_is s h
  unfold compress
  rw [force_eq, force_eq, force_eq, force_eq, force_eq, force_eq, force_eq, force_eq, h1, h2, h3, h4, h5, h6, h7, h8]
  have e := rounds_eq (wd b p) (wd_lt b p) (wd_next b p) (run b p s) (fun t _ => rfl) (fun a' b' c' d' e' f' g' h' => glue (plus s.a a') (plus s.b b') (plus s.c c') (plus s.d d') (plus s.e e') (plus s.f f') (plus s.g g') (plus s.h h')) 64 0 rfl
  rw [show run b p s 0 = s from rfl] at e
  unfold blkN
  rw [e]
  generalize run b p s 64 = r
  rfl
def n8 (s : Sha.St) : N8 := ⟨s.a.toNat, s.b.toNat, s.c.toNat, s.d.toNat, s.e.toNat, s.f.toNat, s.g.toNat, s.h.toNat⟩
theorem n8_ok (s : Sha.St) (h : s.ok) : (n8 s).ok := by
  obtain ⟨ha, hb, hc, hd, he, hf, hg, hh⟩ := h
  exact ⟨by show s.a.toNat < _; omega, by show s.b.toNat < _; omega, by show s.c.toNat < _; omega, by show s.d.toNat < _; omega, by show s.e.toNat < _; omega, by show s.f.toNat < _; omega, by show s.g.toNat < _; omega, by show s.h.toNat < _; omega⟩
theorem n8_st (s : Sha.St) (h : s.ok) : (n8 s).st = s := by
  obtain ⟨ha, hb, hc, hd, he, hf, hg, hh⟩ := h
  cases s
  simp only at ha hb hc hd he hf hg hh
  simp only [n8, N8.st]
  congr 1 <;> omega
theorem st_n8 (s : N8) : n8 s.st = s := by cases s; rfl
/-- A state's number. -/
def numS (s : Sha.St) : Nat := (n8 s).num
theorem compress_block (s : Sha.St) (h : s.ok) (b : ByteArray) (p : Nat) : compress (numS s) (blkN b p) = numS (Sha.block Ks s b p) := by
  have e : Sha.block Ks s b p = ((n8 s).plus (run b p (n8 s) 64)).st := by
    rw [N8.plus_st, run_st b p _ (n8_ok s h) 64 (Nat.le_refl _), n8_st s h]; rfl
  rw [e]
  unfold numS
  rw [st_n8, compress_n8 _ (n8_ok s h)]
theorem numS_Hs : numS Hs = hC := by kernel_rfl
end Fast
end Go.Proofs.YtgnkdkehooagpaaDoor
namespace Go.Proofs.YtgnkdkehooagpaaDoor
open Go.RowKit
set_option linter.unusedVariables false
set_option maxRecDepth 100000

namespace Fast
/-- Bytes as one number. -/
def natL (l : List Int) : Nat := l.foldl (fun n x => n * 256 + x.toNat) 0
theorem foldl_from (l : List Int) : ∀ a : Nat, l.foldl (fun n x => n * 256 + x.toNat) a = a * 256 ^ l.length + natL l := by
  induction l with
  | nil => intro a; simp [natL]
  | cons x l ih =>
    intro a
    show l.foldl _ (a * 256 + x.toNat) = _
    rw [ih, show natL (x :: l) = l.foldl (fun n x => n * 256 + x.toNat) (0 * 256 + x.toNat) from rfl, ih, List.length_cons, Nat.pow_succ]
    generalize 256 ^ l.length = q
    rw [Nat.add_mul, Nat.mul_assoc, Nat.mul_comm 256 q, Nat.zero_mul, Nat.zero_add]; omega
theorem natL_app (a b : List Int) : natL (a ++ b) = natL a * 256 ^ b.length + natL b := by
  unfold natL
  rw [List.foldl_append]
  exact foldl_from b _
theorem natL_cons (x : Int) (l : List Int) : natL (x :: l) = x.toNat * 256 ^ l.length + natL l := by
  rw [show x :: l = [x] ++ l from rfl, natL_app]
  simp [natL]
theorem natL_lt (l : List Int) (h : bytes l) : natL l < 256 ^ l.length := by
  induction l with
  | nil => simp [natL]
  | cons x l ih =>
    have h1 := ih (fun y hy => h y (by simp [hy]))
    have h2 := h x (by simp)
    rw [natL_cons, List.length_cons, Nat.pow_succ]
    have : (x.toNat + 1) * 256 ^ l.length ≤ 256 * 256 ^ l.length := Nat.mul_le_mul_right _ (by omega)
    rw [Nat.add_mul, Nat.one_mul] at this
    rw [Nat.mul_comm (256 ^ l.length)]; omega
theorem natL_inj : ∀ (a b : List Int), bytes a → bytes b → a.length = b.length → natL a = natL b → a = b
  | [], [], _, _, _, _ => rfl
  | [], _ :: _, _, _, h, _ => by simp at h
  | _ :: _, [], _, _, h, _ => by simp at h
  | x :: a, y :: b, ha, hb, hl, h => by
    have hl2 : a.length = b.length := by simpa using hl
    have h1 := natL_lt a (fun z hz => ha z (by simp [hz]))
    have h2 := natL_lt b (fun z hz => hb z (by simp [hz]))
    have hx := ha x (by simp)
    have hy := hb y (by simp)
    rw [natL_cons, natL_cons, ← hl2] at h
    rw [← hl2] at h2
    generalize 256 ^ a.length = q at h h1 h2
    have e : x.toNat = y.toNat := by
      rcases Nat.lt_trichotomy x.toNat y.toNat with k | k | k
      · have := Nat.mul_le_mul_right q (show x.toNat + 1 ≤ y.toNat from k)
        rw [Nat.add_mul, Nat.one_mul] at this; omega
      · exact k
      · have := Nat.mul_le_mul_right q (show y.toNat + 1 ≤ x.toNat from k)
        rw [Nat.add_mul, Nat.one_mul] at this; omega
    rw [e] at h
    have e2 := natL_inj a b (fun z hz => ha z (by simp [hz])) (fun z hz => hb z (by simp [hz])) hl2 (by omega)
    rw [e2, show x = y by omega]
theorem natL_zeros (z : Nat) : natL (List.replicate z 0) = 0 := by
  induction z with
  | zero => rfl
  | succ z ih => rw [List.replicate_succ, natL_cons, ih]; simp
theorem natL_beq (n : Nat) (h : n < 18446744073709551616) : ∀ q, q ≤ 8 → natL (beL (n : Int) q) = n / 2 ^ (8 * (8 - q)) := by
  intro q
  induction q with
  | zero => intro _; show 0 = n / 2 ^ 64; rw [Nat.div_eq_of_lt h]
  | succ q ih =>
    intro hq
    show natL (beL (n : Int) q ++ [(n : Int) / 2 ^ (8 * (7 - q)) % 256]) = _
    have e : ((n : Int) / 2 ^ (8 * (7 - q)) % 256).toNat = n / 2 ^ (8 * (7 - q)) % 256 := by
      rw [show (n : Int) / 2 ^ (8 * (7 - q)) = ((n / 2 ^ (8 * (7 - q)) : Nat) : Int) by rw [Int.natCast_ediv, Int.natCast_pow]; rfl]
      omega
    rw [natL_app, ih (by omega), show natL [(n : Int) / 2 ^ (8 * (7 - q)) % 256] = 0 * 256 + ((n : Int) / 2 ^ (8 * (7 - q)) % 256).toNat from rfl, e, show 8 * (8 - q) = 8 * (7 - q) + 8 by omega, Nat.pow_add, ← Nat.div_div_eq_div_mul, show 8 * (8 - (q + 1)) = 8 * (7 - q) by omega]
    generalize n / 2 ^ (8 * (7 - q)) = x
    show x / 2 ^ 8 * 256 ^ 1 + (0 * 256 + x % 256) = x
    omega
theorem natL_be (n : Nat) (h : n < 18446744073709551616) : natL (beL (n : Int) 8) = n := by
  rw [natL_beq n h 8 (Nat.le_refl _)]; simp
theorem natL_take (l : List Int) (h : bytes l) (k : Nat) (hk : k ≤ l.length) : natL (l.take k) = natL l / 256 ^ (l.length - k) ∧ natL (l.drop k) = natL l % 256 ^ (l.length - k) := by
  have e : natL l = natL (l.take k) * 256 ^ (l.length - k) + natL (l.drop k) := by
    conv => lhs; rw [← List.take_append_drop k l]
    rw [natL_app, List.length_drop]
  have hd : natL (l.drop k) < 256 ^ (l.length - k) := by
    have := natL_lt (l.drop k) (fun x hx => h x (List.mem_of_mem_drop hx))
    rwa [List.length_drop] at this
  generalize 256 ^ (l.length - k) = q at e hd
  have hq : 0 < q := by omega
  rw [e]
  exact ⟨by rw [Nat.mul_comm, Nat.mul_add_div hq, Nat.div_eq_of_lt hd]; rfl, by rw [Nat.mul_comm, Nat.mul_add_mod, Nat.mod_eq_of_lt hd]⟩
/-- A block's number is that of its bytes. -/
theorem word_bytes (b : ByteArray) (p : Nat) (h : p + 4 ≤ b.size) : natL (((textL b).drop p).take 4) = Sha.word b p := by
  rw [textL_at b p (by omega), textL_at b (p + 1) (by omega), textL_at b (p + 1 + 1) (by omega), textL_at b (p + 1 + 1 + 1) (by omega)]
  unfold Sha.word
  rw [get_elem b p (by omega), get_elem b (p + 1) (by omega), get_elem b (p + 2) (by omega), get_elem b (p + 3) (by omega)]
  simp [natL]
theorem hor_bytes (b : ByteArray) (p : Nat) : ∀ m, p + 4 * m ≤ b.size → hor (fun i => Sha.word b (p + 4 * i)) m = natL (((textL b).drop p).take (4 * m)) := by
  intro m
  induction m with
  | zero => intro _; rfl
  | succ m ih =>
    intro h
    show hor _ m * 4294967296 + Sha.word b (p + 4 * m) = _
    rw [ih (by omega), show 4 * (m + 1) = 4 * m + 4 by omega, List.take_add, natL_app, List.drop_drop, word_bytes b (p + 4 * m) (by omega), List.length_take, List.length_drop, textL_length, show min 4 (b.size - (p + 4 * m)) = 4 by omega]
theorem first_get (b : ByteArray) (p : Nat) : ∀ n i, i < n → (Sha.first b p n).getD i 0 = ((Sha.word b (p + 4 * i) : Nat) : Int) := by
  intro n
  induction n with
  | zero => intro i h; omega
  | succ n ih =>
    intro i hi
    show (Sha.first b p n ++ [_]).getD i 0 = _
    rw [List.getD_eq_getElem?_getD]
    rcases Nat.lt_or_ge i n with h | h
    · rw [List.getElem?_append_left (by rw [Sha.first_length]; exact h), ← List.getD_eq_getElem?_getD, ih i h]
    · rw [List.getElem?_append_right (by rw [Sha.first_length]; exact h), Sha.first_length, show i - n = 0 by omega, show i = n by omega]; rfl
theorem blk_bytes (b : ByteArray) (p : Nat) (h : p + 64 ≤ b.size) : blkN b p = natL (((textL b).drop p).take 64) := by
  have e : ∀ i, i < 16 → wd b p i = Sha.word b (p + 4 * i) := fun i hi => by
    have h1 := wd_at b p 0 i (by omega)
    have h2 : (Sha.sched b p 0).getD i 0 = _ := first_get b p 16 i hi
    rw [h2] at h1; omega
  have := hor_bytes b p 16 (by omega)
  rw [← this]
  unfold blkN
  rw [win_is]
  simp only [hor, Nat.zero_mul, Nat.zero_add, Nat.mul_zero, Nat.add_zero]
  rw [e 0 (by decide), e 1 (by decide), e 2 (by decide), e 3 (by decide), e 4 (by decide), e 5 (by decide), e 6 (by decide), e 7 (by decide), e 8 (by decide), e 9 (by decide), e 10 (by decide), e 11 (by decide), e 12 (by decide), e 13 (by decide), e 14 (by decide), e 15 (by decide), show p + 4 * 0 = p from rfl]
theorem natL_put4 (n : Int) (h : 0 ≤ n ∧ n < 4294967296) : natL (putL n 4) = n.toNat := by
  simp [putL, natL]; omega
theorem natL_bytesL : ∀ l : List Int, (∀ x ∈ l, 0 ≤ x ∧ x < 4294967296) → natL (bytesL l) = l.foldl (fun n x => n * 4294967296 + x.toNat) 0 := by
  have key : ∀ (l : List Int), (∀ x ∈ l, 0 ≤ x ∧ x < 4294967296) → ∀ a : Nat, a * 256 ^ (bytesL l).length + natL (bytesL l) = l.foldl (fun n x => n * 4294967296 + x.toNat) a := by
    intro l
    induction l with
    | nil => intro _ a; simp [bytesL, natL]
    | cons x l ih =>
      intro h a
      show a * 256 ^ (putL x 4 ++ bytesL l).length + natL (putL x 4 ++ bytesL l) = l.foldl _ (a * 4294967296 + x.toNat)
      rw [← ih (fun y hy => h y (by simp [hy])), natL_app, natL_put4 x (h x (by simp)), List.length_append, putL_length, Nat.pow_add, Nat.add_mul, ← Nat.mul_assoc]
      rw [show (256 : Nat) ^ 4 = 4294967296 from rfl]; omega
  intro l h
  have := key l h 0
  rwa [Nat.zero_mul, Nat.zero_add] at this
theorem natL_state (s : Sha.St) (h : s.ok) : natL (bytesL s.list) = numS s := by
  obtain ⟨ha, hb, hc, hd, he, hf, hg, hh⟩ := h
  rw [natL_bytesL s.list (fun x hx => by
    simp only [Sha.St.list, List.mem_cons, List.not_mem_nil, or_false] at hx
    rcases hx with rfl | rfl | rfl | rfl | rfl | rfl | rfl | rfl <;> assumption)]
  simp [Sha.St.list, numS, n8, N8.num, glue]
/-- The number of the first n blocks' state. -/
theorem blocks_next (b : ByteArray) (n : Nat) (h : 64 * (n + 1) ≤ b.size) : numS (Sha.blocks Ks Hs b (n + 1)) = compress (numS (Sha.blocks Ks Hs b n)) (natL (((textL b).drop (64 * n)).take 64)) := by
  rw [← blk_bytes b (64 * n) (by omega), compress_block _ (Sha.blocks_ok Ks Hs b Hs_ok n)]; rfl
theorem sum_num (s : ByteArray) (N : Nat) (h : (fullS s).size = 64 * N) : natL (sumL s) = numS (Sha.blocks Ks Hs (fullS s) N) := by
  rw [join s N h, natL_state _ (Sha.blocks_ok Ks Hs _ Hs_ok N)]
theorem natL_pad (s : ByteArray) (h : s.size < 2305843009213693952) : natL (textL (fullS s)) = (natL (textL s) * 256 + 128) * 256 ^ (zerosN s.size + 8) + 8 * s.size := by
  rw [← padL_text]
  unfold padL
  have e := natL_be (8 * s.size) (by omega)
  have e8 : (beL ((s.size : Int) * 8) 8).length = 8 := rfl
  rw [show ((s.size : Int) * 8) = ((8 * s.size : Nat) : Int) by omega] at e8 ⊢
  rw [natL_app, natL_app, natL_app, natL_zeros, e, e8, List.length_replicate, Nat.pow_add, ← Nat.mul_assoc, Nat.add_zero]
  rfl
/-- A text of one block. -/
theorem sum_one (s : ByteArray) (h : s.size ≤ 55) : natL (sumL s) = compress hC ((natL (textL s) * 256 + 128) * 256 ^ (63 - s.size) + 8 * s.size) := by
  have hz : zerosN s.size = 55 - s.size := by unfold zerosN; omega
  have hf : (fullS s).size = 64 * 1 := by rw [fullS_size, hz]; omega
  have hl : (textL (fullS s)).length = 64 := by rw [textL_length, hf]
  rw [sum_num s 1 hf, blocks_next _ 0 (by omega), Nat.mul_zero, List.drop_zero, List.take_of_length_le (by omega), natL_pad s (by omega), hz, show 55 - s.size + 8 = 63 - s.size by omega]
  show compress (numS Hs) _ = _
  rw [numS_Hs]
/-! Sums of any text, by the kernel. -/
/-- n blocks more of the padded text V. -/
def absN (V : Nat) : Nat → Nat → Nat :=
  @Nat.rec (fun _ => Nat → Nat) (fun S => S) (fun n ih S => force (compress S (Nat.mod (Nat.div V (Nat.pow 2 (Nat.mul 512 n))) 13407807929942597099574024998205846127479365820592393377723561443721764030073546976801874298166903427690031858186486050853753882811946569946433649006084096)) ih)
/-- (The padded text is not computed ahead: numbers whose last 64 bits are alike would meet in the kernel's tables.) -/
def sumNum (v n : Nat) : Nat :=
  force (Nat.add (Nat.mod (Nat.sub 119 (Nat.mod n 64)) 64) 8) fun z => absN (Nat.add (Nat.mul (Nat.add (Nat.mul v 256) 128) (Nat.pow 256 z)) (Nat.mul 8 n)) (Nat.div (Nat.add (Nat.add n 1) z) 64) hC
theorem pow_cut (l : List Int) (h : bytes l) (n j : Nat) (hj : j < n) (hl : l.length = 64 * n) : natL ((l.drop (64 * j)).take 64) = natL l / 2 ^ (512 * (n - 1 - j)) % 13407807929942597099574024998205846127479365820592393377723561443721764030073546976801874298166903427690031858186486050853753882811946569946433649006084096 := by
  have h1 := natL_take l h (64 * j) (by omega)
  have hd : bytes (l.drop (64 * j)) := fun x hx => h x (List.mem_of_mem_drop hx)
  have h2 := natL_take (l.drop (64 * j)) hd 64 (by rw [List.length_drop]; omega)
  rw [h2.1, h1.2, List.length_drop, hl]
  have e1 : 64 * n - 64 * j = 64 + 64 * (n - 1 - j) := by omega
  have e2 : 64 * n - 64 * j - 64 = 64 * (n - 1 - j) := by omega
  rw [e2, e1, Nat.pow_add, show (2 : Nat) ^ (512 * (n - 1 - j)) = 256 ^ (64 * (n - 1 - j)) by rw [show (256 : Nat) = 2 ^ 8 from rfl, ← Nat.pow_mul]; congr 1; omega, Nat.mul_comm (256 ^ 64), Nat.mod_mul_right_div_self]
theorem absN_eq (s : ByteArray) (N : Nat) (h : (fullS s).size = 64 * N) : ∀ n t, t + n = N → absN (natL (textL (fullS s))) n (numS (Sha.blocks Ks Hs (fullS s) t)) = numS (Sha.blocks Ks Hs (fullS s) N)
  | 0, t, ht => by
    obtain rfl : t = N := by omega
    rfl
  | n + 1, t, ht => by
    have ih := absN_eq s N h n (t + 1) (by omega)
    rw [blocks_next _ t (by omega), pow_cut (textL (fullS s)) (textL_bytes _) N t (by omega) (by rw [textL_length, h]), show N - 1 - t = n by omega] at ih
    rw [← ih]
    exact force_eq _ _
theorem sum_is (s : ByteArray) (h : s.size < 2305843009213693952) : natL (sumL s) = sumNum (natL (textL s)) s.size := by
  have hf : (fullS s).size = 64 * ((s.size + 1 + (zerosN s.size + 8)) / 64) := by
    rw [fullS_size]; unfold zerosN; omega
  have e := absN_eq s _ hf _ 0 (Nat.zero_add _)
  rw [natL_pad s h] at e
  rw [sum_num s _ hf, ← e]
  unfold sumNum
  rw [force_eq]
  show absN _ _ (numS Hs) = _
  rw [numS_Hs]
  rfl
theorem natL_str (l : List Int) (h : bytes l) : natL (textL (strOfNums l)) = natL l := by rw [textL_nums l h]
/-! Nodes, and keys that sign once. -/
def c256 : Nat := 115792089237316195423570985008687907853269984665640564039457584007913129639936
theorem c256_is : (256 : Nat) ^ 32 = c256 := by kernel_rfl
def cKey : Nat := Nat.mul 4 (Nat.pow 256 16384)
theorem cKey_is : 4 * (256 : Nat) ^ 16384 = cKey := by kernel_rfl
def nodeNum (x y : Nat) : Nat := sumNum (Nat.add (Nat.mul (Nat.add c256 x) c256) y) 65
theorem node_num (a b : List Int) (ha : a.length = 32 ∧ bytes a) (hb : b.length = 32 ∧ bytes b) : natL (nodeL a b) = nodeNum (natL a) (natL b) := by
  unfold nodeL
  have hz : (nodeS a b).size = 65 := by unfold nodeS; rw [ByteArray.size_append, ByteArray.size_append, strOfNums_size, strOfNums_size, ha.1, hb.1]; rfl
  rw [sum_is _ (by omega), hz, textL_node a b ha.2 hb.2, natL_cons, natL_app, List.length_append, ha.1, hb.1]
  unfold nodeNum
  refine congrArg (fun v => sumNum v 65) ?_
  rw [Nat.add_eq, Nat.mul_eq, Nat.add_eq]
  rw [Nat.pow_add, c256_is, Nat.add_mul, show (1 : Int).toNat = 1 from rfl, Nat.one_mul, Nat.add_assoc]
def pubNum (x : Nat) : Nat := sumNum (Nat.add (Nat.mul 3 c256) x) 33
theorem pub_num (h : List Int) (hh : h.length = 32 ∧ bytes h) : natL (pubH h) = pubNum (natL h) := by
  unfold pubH pubNum
  have hz : (⟨#[3]⟩ ++ strOfNums h : ByteArray).size = 33 := by rw [ByteArray.size_append, strOfNums_size, hh.1]; rfl
  rw [sum_is _ (by omega), hz, textL_app, textL_nums h hh.2, show textL ⟨#[3]⟩ = [3] from rfl, natL_app, hh.1, c256_is]
  rfl
/-- What stands ahead in all that a key's secrets are made of. -/
def preT (seed : ByteArray) (index : Int) : ByteArray := ⟨#[2]⟩ ++ textS seed ++ putS index 4
def secNum (pre L k : Nat) : Nat := sumNum (Nat.add (Nat.mul pre 65536) k) (Nat.add L 2)
theorem natL_put2 (k : Nat) (h : k < 65536) : natL (putL (k : Int) 2) = k := by
  simp [putL, natL]; omega
theorem put2_size (k : Nat) : (putS (k : Int) 2).size = 2 := by rw [putS_some _ 2 (by omega), strOfNums_size, putL_length]; rfl
theorem sec_num (seed : ByteArray) (index i b : Nat) (hs : seed.size ≤ 100000) (hk : 2 * i + b < 65536) : natL (secL seed index i b) = secNum (natL (textL (preT seed index))) (preT seed index).size (2 * i + b) := by
  have e : secS seed index i b = preT seed index ++ putS ((2 * i + b : Nat) : Int) 2 := rfl
  have hp : (putS (index : Int) 4).size = 4 := by rw [putS_some _ 4 (by omega), strOfNums_size, putL_length]; rfl
  have hn := numS_size seed.size (by omega)
  have hz : (preT seed index).size < 200000 := by
    unfold preT textS
    rw [ByteArray.size_append, ByteArray.size_append, ByteArray.size_append, hp]
    show 1 + ((Go.Proofs.YtgnkdkehooagpaaDoor.numS seed.size).size + seed.size) + 4 < _
    omega
  unfold secL secNum
  rw [e, sum_is _ (by rw [ByteArray.size_append, put2_size]; omega), ByteArray.size_append, put2_size, textL_app, natL_app, putS_some _ 2 (by omega), textL_nums _ (fun x hx => putL_byte _ _ x hx), show (2 : Int).toNat = 2 from rfl, putL_length, natL_put2 _ hk]
  rfl
/-- Which place stands at k, where two places of one pair stand the other way round. -/
def swapN (sw k : Nat) : Nat := Nat.sub (Nat.add k (Nat.sub 1 (Nat.add (Nat.sub (Nat.div k 2) sw) (Nat.sub sw (Nat.div k 2))))) (Nat.mul (Nat.mul 2 (Nat.sub 1 (Nat.add (Nat.sub (Nat.div k 2) sw) (Nat.sub sw (Nat.div k 2))))) (Nat.mod k 2))
theorem swapN_is (sw k : Nat) : swapN sw k = if k / 2 = sw then 2 * (k / 2) + (1 - k % 2) else k := by
  show (k + (1 - (k / 2 - sw + (sw - k / 2)))) - 2 * (1 - (k / 2 - sw + (sw - k / 2))) * (k % 2) = _
  split
  · rename_i h
    rw [h, Nat.sub_self]
    rcases (show k % 2 = 0 ∨ k % 2 = 1 by omega) with e | e <;> rw [e] <;> omega
  · rename_i h
    rw [show 1 - (k / 2 - sw + (sw - k / 2)) = 0 by omega]; omega
/-- n public hashes more of a key, one behind the other. -/
def accN (pre L sw : Nat) : Nat → Nat → Nat :=
  @Nat.rec (fun _ => Nat → Nat) (fun acc => acc) (fun n ih acc => force (secNum pre L (swapN sw (Nat.sub 511 n))) fun x => force (pubNum x) fun p => force (Nat.add (Nat.mul acc c256) p) ih)
theorem accN_succ (pre L sw n acc : Nat) : accN pre L sw (n + 1) acc = force (secNum pre L (swapN sw (Nat.sub 511 n))) fun x => force (pubNum x) fun p => force (Nat.add (Nat.mul acc c256) p) (accN pre L sw n) := rfl
def keyNum (pre L sw : Nat) : Nat := force (accN pre L sw 512 0) fun acc => sumNum (Nat.add cKey acc) 16385
theorem natL_flat (ls : List (List Int)) (h : hashes ls) : natL ls.flatten = (ls.map natL).foldl (fun n x => n * c256 + x) 0 := by
  have key : ∀ (ls : List (List Int)), hashes ls → ∀ a, natL (a ++ ls.flatten) = (ls.map natL).foldl (fun n x => n * c256 + x) (natL a) := by
    intro ls
    induction ls with
    | nil => intro _ a; simp
    | cons l r ih =>
      intro h a
      rw [List.flatten_cons, ← List.append_assoc, ih (fun x hx => h x (by simp [hx])), natL_app, (h l (by simp)).1, c256_is]
      rfl
  exact key ls h []
/-- A key's public hashes, two of one pair the other way round. -/
def pubSw (seed : ByteArray) (index sw : Nat) : List (List Int) := (List.range 512).map fun k => pubAt seed index (swapN sw k)
theorem pubSw_hashes (seed : ByteArray) (index sw : Nat) : hashes (pubSw seed index sw) := fun l hl => by
  obtain ⟨k, _, rfl⟩ := List.mem_map.1 hl
  exact pubH_is _
theorem pubSw_none (seed : ByteArray) (index sw : Nat) (h : 256 ≤ sw) : pubSw seed index sw = pubN seed index 512 := by
  unfold pubSw pubN
  refine List.map_congr_left (fun k hk => ?_)
  have hk : k < 512 := by simpa using hk
  rw [swapN_is, if_neg (by omega)]
theorem swapN_lt (sw k : Nat) (h : k < 512) : swapN sw k < 512 := by rw [swapN_is]; split <;> omega
theorem accN_eq (seed : ByteArray) (index sw : Nat) (hs : seed.size ≤ 100000) : ∀ n t acc, t + n = 512 → accN (natL (textL (preT seed index))) (preT seed index).size sw n acc =
    ((List.range' t n).map fun k => natL (pubAt seed index (swapN sw k))).foldl (fun n x => n * c256 + x) acc
  | 0, t, acc, _ => rfl
  | n + 1, t, acc, ht => by
    have hk := swapN_lt sw t (by omega)
    have e : natL (pubAt seed index (swapN sw t)) = pubNum (secNum (natL (textL (preT seed index))) (preT seed index).size (swapN sw t)) := by
      unfold pubAt
      rw [pub_num _ (secL_is _ _ _ _), sec_num seed index _ _ hs (by omega), show 2 * (swapN sw t / 2) + swapN sw t % 2 = swapN sw t by omega]
    rw [List.range'_succ, List.map_cons, List.foldl_cons, ← accN_eq seed index sw hs n (t + 1) _ (by omega), e, show t = 511 - n by omega, accN_succ, force_eq, force_eq, force_eq]
    rfl
theorem key_num (seed : ByteArray) (index sw : Nat) (hs : seed.size ≤ 100000) : natL (keyF (pubSw seed index sw)) = keyNum (natL (textL (preT seed index))) (preT seed index).size sw := by
  have hh := pubSw_hashes seed index sw
  have hl : (pubSw seed index sw).length = 512 := by simp [pubSw]
  have hf := flat_size hh
  rw [hl] at hf
  have hz : (keyS (pubSw seed index sw)).size = 16385 := by
    unfold keyS
    rw [ByteArray.size_append, strOfNums_size, hf, show (⟨#[4]⟩ : ByteArray).size = 1 from rfl]
  have e : (pubSw seed index sw).map natL = (List.range' 0 512).map fun k => natL (pubAt seed index (swapN sw k)) := by
    unfold pubSw
    rw [List.map_map, List.range_eq_range', Function.comp_def]
  have e2 : natL (textL (keyS (pubSw seed index sw))) = cKey + accN (natL (textL (preT seed index))) (preT seed index).size sw 512 0 := by
    unfold keyS
    rw [textL_app, textL_nums _ (flat_bytes hh), show textL ⟨#[4]⟩ = [4] from rfl, natL_app, hf, show 32 * 512 = 16384 from rfl, show natL [4] = 4 from rfl, cKey_is, natL_flat _ hh, e, accN_eq seed index sw hs 512 0 0 rfl]
  rw [keyF_ok hl, sum_is _ (by omega), hz, e2]
  unfold keyNum
  rw [force_eq, Nat.add_eq]
end Fast
end Go.Proofs.YtgnkdkehooagpaaDoor
