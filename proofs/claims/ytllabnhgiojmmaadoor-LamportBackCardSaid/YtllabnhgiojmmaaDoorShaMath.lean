/-
  SHA-256 as plain functions on numbers, in the spelling of the walks: the rounds, a block's numbers, blocks one behind the other. No program is named here.
-/
import Derived.Test.YtllabnhgiojmmaaDoorRow
import Derived.Test.YtllabnhgiojmmaaDoorGet
namespace Go.Proofs.YtllabnhgiojmmaaDoor
open Go.RowKit
set_option linter.unusedVariables false

namespace Sha
/-- What is xor-ed to turn a number's bits. -/
def ones : Int := if IntKind.u32.signed = true then -1 else IntKind.u32.max
def S1 (e : Int) : Int := bits .xor .u32 (bits .xor .u32 (Math.rot e (-6)) (Math.rot e (-11))) (Math.rot e (-25))
def S0 (a : Int) : Int := bits .xor .u32 (bits .xor .u32 (Math.rot a (-2)) (Math.rot a (-13))) (Math.rot a (-22))
def ch (e f g : Int) : Int := bits .xor .u32 (bits .and .u32 e f) (bits .and .u32 (bits .xor .u32 ones e) g)
def maj (a b c : Int) : Int := bits .xor .u32 (bits .xor .u32 (bits .and .u32 a b) (bits .and .u32 a c)) (bits .and .u32 b c)
def t1 (e f g h k w : Int) : Int := (h + S1 e + ch e f g + k + w) % 4294967296
def t2 (a b c : Int) : Int := (S0 a + maj a b c) % 4294967296
/-- The eight numbers. -/
structure St where
  (a b c d e f g h : Int)
def St.step (s : St) (k w : Int) : St := ⟨(t1 s.e s.f s.g s.h k w + t2 s.a s.b s.c) % 4294967296, s.a, s.b, s.c, (s.d + t1 s.e s.f s.g s.h k w) % 4294967296, s.e, s.f, s.g⟩
def rnd (K W : List Int) (s : St) : Nat → St
  | 0 => s
  | n + 1 => (rnd K W s n).step (K.getD n 0) (W.getD n 0)
def St.list (s : St) : List Int := [s.a, s.b, s.c, s.d, s.e, s.f, s.g, s.h]
def St.cells (s : St) : Array Value := #[.int .u32 s.a, .int .u32 s.b, .int .u32 s.c, .int .u32 s.d, .int .u32 s.e, .int .u32 s.f, .int .u32 s.g, .int .u32 s.h]
def St.ok (s : St) : Prop := (0 ≤ s.a ∧ s.a < 4294967296) ∧ (0 ≤ s.b ∧ s.b < 4294967296) ∧ (0 ≤ s.c ∧ s.c < 4294967296) ∧ (0 ≤ s.d ∧ s.d < 4294967296) ∧ (0 ≤ s.e ∧ s.e < 4294967296) ∧ (0 ≤ s.f ∧ s.f < 4294967296) ∧ (0 ≤ s.g ∧ s.g < 4294967296) ∧ (0 ≤ s.h ∧ s.h < 4294967296)
theorem md (x : Int) : 0 ≤ x % 4294967296 ∧ x % 4294967296 < 4294967296 := by omega
theorem St.step_ok (s : St) (k w : Int) (h : s.ok) : (s.step k w).ok := ⟨md _, h.1, h.2.1, h.2.2.1, md _, h.2.2.2.2.1, h.2.2.2.2.2.1, h.2.2.2.2.2.2.1⟩
theorem rnd_ok (K W : List Int) (s : St) (h : s.ok) (n : Nat) : (rnd K W s n).ok := by
  induction n with
  | zero => exact h
  | succ n ih => exact St.step_ok _ _ _ ih
/-- The numbers behind the rounds, and those ahead of them, together. -/
def St.plus (s r : St) : St := ⟨(s.a + r.a) % 4294967296, (s.b + r.b) % 4294967296, (s.c + r.c) % 4294967296, (s.d + r.d) % 4294967296, (s.e + r.e) % 4294967296, (s.f + r.f) % 4294967296, (s.g + r.g) % 4294967296, (s.h + r.h) % 4294967296⟩
theorem St.plus_ok (s r : St) : (s.plus r).ok := ⟨md _, md _, md _, md _, md _, md _, md _, md _⟩
def s0 (x : Int) : Int := bits .xor .u32 (bits .xor .u32 (Math.rot x (-7)) (Math.rot x (-18))) (x / 8)
def s1 (x : Int) : Int := bits .xor .u32 (bits .xor .u32 (Math.rot x (-17)) (Math.rot x (-19))) (x / 1024)
/-- The word that comes behind l. -/
def more (l : List Int) : Int := (l.getD (l.length - 16) 0 + s0 (l.getD (l.length - 15) 0) + l.getD (l.length - 7) 0 + s1 (l.getD (l.length - 2) 0)) % 4294967296
/-- The first word's four bytes. -/
def word (s : ByteArray) (p : Nat) : Nat := (((s.get! p).toNat * 256 + (s.get! (p + 1)).toNat) * 256 + (s.get! (p + 2)).toNat) * 256 + (s.get! (p + 3)).toNat
def first (s : ByteArray) (at_ : Nat) : Nat → List Int
  | 0 => []
  | n + 1 => first s at_ n ++ [((word s (at_ + 4 * n) : Nat) : Int)]
def sched (s : ByteArray) (at_ : Nat) : Nat → List Int
  | 0 => first s at_ 16
  | n + 1 => sched s at_ n ++ [more (sched s at_ n)]
def block (K : List Int) (s : St) (b : ByteArray) (at_ : Nat) : St := s.plus (rnd K (sched b at_ 48) s 64)
def blocks (K : List Int) (s : St) (b : ByteArray) : Nat → St
  | 0 => s
  | n + 1 => block K (blocks K s b n) b (64 * n)
theorem blocks_ok (K : List Int) (s : St) (b : ByteArray) (h : s.ok) (n : Nat) : (blocks K s b n).ok := by
  cases n with
  | zero => exact h
  | succ n => exact St.plus_ok _ _
theorem word_bd (s : ByteArray) (p : Nat) : word s p < 4294967296 := by
  have h0 := byte_lt (s.get! p); have h1 := byte_lt (s.get! (p + 1)); have h2 := byte_lt (s.get! (p + 2)); have h3 := byte_lt (s.get! (p + 3))
  unfold word; omega
theorem first_length (s : ByteArray) (at_ n : Nat) : (first s at_ n).length = n := by
  induction n with
  | zero => rfl
  | succ n ih => simp [first, ih]
theorem sched_length (s : ByteArray) (at_ n : Nat) : (sched s at_ n).length = 16 + n := by
  induction n with
  | zero => exact first_length s at_ 16
  | succ n ih => simp [sched, ih]; omega
def small (l : List Int) : Prop := ∀ i, 0 ≤ l.getD i 0 ∧ l.getD i 0 < 4294967296
theorem small_nil : small [] := fun i => by simp [List.getD]
theorem small_snoc (l : List Int) (x : Int) (h : small l) (hx : 0 ≤ x ∧ x < 4294967296) : small (l ++ [x]) := fun i => by
  have := h i
  rcases Nat.lt_trichotomy i l.length with hi | hi | hi
  · simpa [List.getD, List.getElem?_append_left hi] using this
  · subst hi; simpa [List.getD] using hx
  · simp [List.getD, List.getElem?_append_right (Nat.le_of_lt hi), List.getElem?_eq_none (show [x].length ≤ i - l.length by simp; omega)]
theorem first_small (s : ByteArray) (at_ n : Nat) : small (first s at_ n) := by
  induction n with
  | zero => exact small_nil
  | succ n ih => exact small_snoc _ _ ih (by have := word_bd s (at_ + 4 * n); omega)
theorem sched_small (s : ByteArray) (at_ n : Nat) : small (sched s at_ n) := by
  induction n with
  | zero => exact first_small s at_ 16
  | succ n ih => exact small_snoc _ _ ih (md _)
/-- Two texts that have the same bytes there have the same words there. -/
theorem word_congr (s t : ByteArray) (p q : Nat) (h : ∀ i, i < 4 → s.get! (p + i) = t.get! (q + i)) : word s p = word t q := by
  have h0 := h 0 (by omega); have h1 := h 1 (by omega); have h2 := h 2 (by omega); have h3 := h 3 (by omega)
  simp only [Nat.add_zero] at h0
  unfold word; rw [h0, h1, h2, h3]
theorem first_congr (s t : ByteArray) (p q : Nat) (n : Nat) (hn : n ≤ 16) (h : ∀ i, i < 64 → s.get! (p + i) = t.get! (q + i)) : first s p n = first t q n := by
  induction n with
  | zero => rfl
  | succ n ih =>
    simp only [first]
    rw [ih (by omega), word_congr s t (p + 4 * n) (q + 4 * n) (fun i hi => by have := h (4 * n + i) (by omega); simpa [Nat.add_assoc] using this)]
theorem sched_congr (s t : ByteArray) (p q : Nat) (n : Nat) (h : ∀ i, i < 64 → s.get! (p + i) = t.get! (q + i)) : sched s p n = sched t q n := by
  induction n with
  | zero => exact first_congr s t p q 16 (by omega) h
  | succ n ih => simp only [sched]; rw [ih]
theorem block_congr (K : List Int) (st : St) (s t : ByteArray) (p q : Nat) (h : ∀ i, i < 64 → s.get! (p + i) = t.get! (q + i)) : block K st s p = block K st t q := by
  unfold block; rw [sched_congr s t p q 48 h]
theorem blocks_congr (K : List Int) (st : St) (s t : ByteArray) (n : Nat) (h : ∀ i, i < 64 * n → s.get! i = t.get! i) : blocks K st s n = blocks K st t n := by
  induction n with
  | zero => rfl
  | succ n ih =>
    simp only [blocks]
    rw [ih (fun i hi => h i (by omega)), block_congr K _ s t (64 * n) (64 * n) (fun i hi => h _ (by omega))]
/-- Blocks of one text, then those of what stands behind it. -/
theorem blocks_add (K : List Int) (st : St) (s t : ByteArray) (m n : Nat) (h : ∀ i, i < 64 * n → s.get! (64 * m + i) = t.get! i) : blocks K st s (m + n) = blocks K (blocks K st s m) t n := by
  induction n with
  | zero => rfl
  | succ n ih =>
    rw [← Nat.add_assoc]
    simp only [blocks]
    rw [ih (fun i hi => h i (by omega)), block_congr K _ s t (64 * (m + n)) (64 * n) (fun i hi => by have := h (64 * n + i) (by omega); rwa [← Nat.add_assoc, ← Nat.mul_add] at this)]
end Sha
end Go.Proofs.YtllabnhgiojmmaaDoor
