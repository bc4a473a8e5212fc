/-
  What the program's functions of layer 8 say, as the statements of that layer use it (proved elsewhere); and the plain facts of the chapter's examples.
-/
import Derived.Test.YtllabnhgiojmmaaDoorLampMath
import Derived.Test.YtllabnhgiojmmaaDoorRefPublic
import Derived.Test.YtllabnhgiojmmaaDoorShaSum
import Derived.Test.YtllabnhgiojmmaaDoorShaAt
import Derived.Test.YtllabnhgiojmmaaDoorListMem
namespace Go.Proofs.YtllabnhgiojmmaaDoor
open Go.RowKit Go.Great
set_option linter.unusedVariables false
set_option maxRecDepth 100000

def num64 (x : Int) : Prop := -9223372036854775808 ≤ x ∧ x ≤ 9223372036854775807
def SecretSays : Prop := ∀ (seed : ByteArray) (index i bit : Int) (W : World), Tab W → seed.size ≤ 100000 → num64 index → num64 i → num64 bit →
  Calls Tryd.prog 11 #[.string seed, .int .i64 index, .int .i64 i, .int .i64 bit] W fun e w' => e = .returned (.agg (nums .u8 (secF seed index i bit))) ∧ Below W.heap.size W w'
def PublicSays : Prop := ∀ (seed : ByteArray) (index : Int) (W : World), Tab W → seed.size ≤ 100000 → num64 index →
  Calls Tryd.prog 17 #[.string seed, .int .i64 index] W (GivesP W (pubF seed index))
def KeySays : Prop := ∀ (ls : List (List Int)) (A : Option Addr) (c : Nat) (W : World), Tab W → hashes ls → HL W W.heap.size A ls → ls.length ≤ c → c ≤ maxLen →
  Calls Tryd.prog 18 #[.slice A ls.length c] W fun e w' => e = .returned (.agg (nums .u8 (keyF ls))) ∧ Below W.heap.size W w'
def SignSays : Prop := ∀ (seed : ByteArray) (index : Int) (d : List Int) (W : World), Tab W → seed.size ≤ 100000 → num64 index → d.length = 32 ∧ bytes d →
  Calls Tryd.prog 9 #[.string seed, .int .i64 index, .agg (nums .u8 d)] W fun e w' => e = .returned (.string (sigF seed index d)) ∧ Below W.heap.size W w'
def RecoverSays : Prop := ∀ (s : ByteArray) (d : List Int) (W : World), Tab W → s.size ≤ maxLen → d.length = 32 ∧ bytes d →
  Calls Tryd.prog 13 #[.string s, .agg (nums .u8 d)] W fun e w' => e = .returned (.tuple #[.agg (nums .u8 (recF s d).1), .int .i64 (recF s d).2]) ∧ Below W.heap.size W w'
def firstL : List Int := [110, 159, 184, 189, 80, 184, 35, 97, 245, 169, 238, 123, 37, 142, 236, 228, 81, 228, 190, 157, 207, 84, 151, 90, 33, 232, 105, 140, 60, 16, 165, 137]
theorem first_is : secL ⟨#[97]⟩ 0 0 1 = firstL := by kernel_rfl
/-- The examples' digest. -/
def digL : List Int := 128 :: List.replicate 31 0
theorem digL_is : digL.length = 32 ∧ bytes digL := ⟨rfl, fun x hx => by
  rcases List.mem_cons.1 hx with rfl | hx
  · omega
  · have := List.eq_of_mem_replicate hx; omega⟩
theorem first_not : ¬ firstL = zeroL := by decide
theorem sign_front : (sigF ⟨#[97]⟩ 0 digL).extract 0 32 = strOfNums firstL := by
  have hb : bitN digL 0 = 1 := by kernel_rfl
  have e := sigL_front ⟨#[97]⟩ 0 digL 0 (by decide)
  rw [Nat.mul_zero, List.drop_zero, hb, first_is] at e
  rw [show (0 : Int) = ((0 : Nat) : Int) from rfl, sigF_ok (by decide)]
  refine textL_inj _ _ ?_
  rw [textL_take, textL_nums _ (sigL_bytes _ _ _), e, textL_nums]
  exact (first_is ▸ (secL_is _ _ _ _).2 : bytes firstL)
theorem sign_size : (sigF ⟨#[97]⟩ 0 digL).size = 16384 := sigF_size _ 0 _ (by decide)
end Go.Proofs.YtllabnhgiojmmaaDoor
