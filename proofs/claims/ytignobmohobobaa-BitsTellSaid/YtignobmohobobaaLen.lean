/-
  The walk of the library's count of a number's places (math/bits.Len64), for every number of 64 bits; the world stays. (In a file of its own: the table's rule wants the elder walk.)
-/
import Derived.Test.YtignobmohobobaaRows
import Derived.Lib.Strings
import Derived.Lib.Slices
import Derived.Lib.Small
import Derived.Lib.Walk
import Derived.Lib.BitFns
namespace Go.Proofs.Ytignobmohobobaa
theorem len_i64 {a b : Int} (h : a = b) : Ending.returned (.int .i64 a) = .returned (.int .i64 b) := by rw [h]
theorem len_part (x c : Int) (j : Int) (hj : 0 ≤ j ∧ j ≤ 56) (hc : 0 ≤ c ∧ c ≤ 255) (e : (Lib.bitLen x.toNat : Int) = j + Lib.bitLen c.toNat) :
    (j + ((Lib.len8 c + 9223372036854775808) % 18446744073709551616 - 9223372036854775808) + 9223372036854775808) % 18446744073709551616 - 9223372036854775808 = (Lib.bitLen x.toNat : Int) := by
  have l := Lib.bitLen_le8' c hc.1 hc.2
  rw [Lib.len8_of c hc.1 hc.2, e]; omega
theorem len_at56 (x : Int) (h : 72057594037927936 ≤ x) (h1 : x ≤ 18446744073709551615) (hc : (x / 4294967296 / 65536 / 256 % 256).toNat = x.toNat / 72057594037927936) : (Lib.bitLen x.toNat : Int) = 56 + Lib.bitLen (x / 4294967296 / 65536 / 256 % 256).toNat := by
  rw [hc, Lib.bitLen_shift56 x.toNat (by omega) (by omega)]; omega
theorem len_at48 (x : Int) (h : 281474976710656 ≤ x) (h1 : x ≤ 18446744073709551615) (hc : (x / 4294967296 / 65536 % 256).toNat = x.toNat / 281474976710656) : (Lib.bitLen x.toNat : Int) = 48 + Lib.bitLen (x / 4294967296 / 65536 % 256).toNat := by
  rw [hc, Lib.bitLen_shift48 x.toNat (by omega) (by omega)]; omega
theorem len_at40 (x : Int) (h : 1099511627776 ≤ x) (h1 : x ≤ 18446744073709551615) (hc : (x / 4294967296 / 256 % 256).toNat = x.toNat / 1099511627776) : (Lib.bitLen x.toNat : Int) = 40 + Lib.bitLen (x / 4294967296 / 256 % 256).toNat := by
  rw [hc, Lib.bitLen_shift40 x.toNat (by omega) (by omega)]; omega
theorem len_at32 (x : Int) (h : 4294967296 ≤ x) (h1 : x ≤ 18446744073709551615) (hc : (x / 4294967296 % 256).toNat = x.toNat / 4294967296) : (Lib.bitLen x.toNat : Int) = 32 + Lib.bitLen (x / 4294967296 % 256).toNat := by
  rw [hc, Lib.bitLen_shift32 x.toNat (by omega) (by omega)]; omega
theorem len_at24 (x : Int) (h : 16777216 ≤ x) (h1 : x ≤ 18446744073709551615) (hc : (x / 65536 / 256 % 256).toNat = x.toNat / 16777216) : (Lib.bitLen x.toNat : Int) = 24 + Lib.bitLen (x / 65536 / 256 % 256).toNat := by
  rw [hc, Lib.bitLen_shift24 x.toNat (by omega) (by omega)]; omega
theorem len_at16 (x : Int) (h : 65536 ≤ x) (h1 : x ≤ 18446744073709551615) (hc : (x / 65536 % 256).toNat = x.toNat / 65536) : (Lib.bitLen x.toNat : Int) = 16 + Lib.bitLen (x / 65536 % 256).toNat := by
  rw [hc, Lib.bitLen_shift16 x.toNat (by omega) (by omega)]; omega
theorem len_at8 (x : Int) (h : 256 ≤ x) (h1 : x ≤ 18446744073709551615) (hc : (x / 256 % 256).toNat = x.toNat / 256) : (Lib.bitLen x.toNat : Int) = 8 + Lib.bitLen (x / 256 % 256).toNat := by
  rw [hc, Lib.bitLen_shift8 x.toNat (by omega) (by omega)]; omega
set_option maxHeartbeats 4000000 in
set_option maxRecDepth 100000 in
theorem len_any (x : Int) (w : World) (h0 : 0 ≤ x) (h1 : x ≤ 18446744073709551615) :
    Calls Try.prog 24 #[.int .u64 x] w fun e w' => e = .returned (.int .i64 (Lib.bitLen x.toNat)) ∧ w = w' := by
  go_enter Try.func24, Try.ntmps24
  go_wp2
  all_goals (go_ret; refine ⟨len_i64 ?_, rfl⟩)
  all_goals first
    | (rw [len_part x (x / 4294967296 / 65536 / 256 % 256) 56 (by omega) (by omega) (len_at56 x (by omega) h1 (by omega))])
    | (rw [len_part x (x / 4294967296 / 65536 % 256) 48 (by omega) (by omega) (len_at48 x (by omega) h1 (by omega))])
    | (rw [len_part x (x / 4294967296 / 256 % 256) 40 (by omega) (by omega) (len_at40 x (by omega) h1 (by omega))])
    | (rw [len_part x (x / 4294967296 % 256) 32 (by omega) (by omega) (len_at32 x (by omega) h1 (by omega))])
    | (rw [len_part x (x / 65536 / 256 % 256) 24 (by omega) (by omega) (len_at24 x (by omega) h1 (by omega))])
    | (rw [len_part x (x / 65536 % 256) 16 (by omega) (by omega) (len_at16 x (by omega) h1 (by omega))])
    | (rw [len_part x (x / 256 % 256) 8 (by omega) (by omega) (len_at8 x (by omega) h1 (by omega))])
    | (have l := Lib.bitLen_le8' (x % 256) (by omega) (by omega)
       rw [Lib.len8_of (x % 256) (by omega) (by omega)]
       rw [show (x % 256).toNat = x.toNat by omega] at l ⊢
       omega)
end Go.Proofs.Ytignobmohobobaa
