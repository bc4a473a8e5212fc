/-
  The walks of layer 2 (sha): the blocks, one behind the other ('through'). Conditions: eight numbers of 32 bits, a text of whole blocks, the table of the rounds' numbers as it was laid. It makes new memory; nothing that was there changes.
-/
import Derived.Test.YtllabnhgiojmmaaDoorShaT
import Derived.Test.YtllabnhgiojmmaaDoorShaS
namespace Go.Proofs.YtllabnhgiojmmaaDoor
open Go.RowKit
set_option linter.unusedVariables false
set_option maxRecDepth 100000

/-- The rounds' numbers, and those ahead of the first block. -/
def Ks : List Int := [
    0x428a2f98, 0x71374491, 0xb5c0fbcf, 0xe9b5dba5, 0x3956c25b, 0x59f111f1, 0x923f82a4, 0xab1c5ed5,
    0xd807aa98, 0x12835b01, 0x243185be, 0x550c7dc3, 0x72be5d74, 0x80deb1fe, 0x9bdc06a7, 0xc19bf174,
    0xe49b69c1, 0xefbe4786, 0x0fc19dc6, 0x240ca1cc, 0x2de92c6f, 0x4a7484aa, 0x5cb0a9dc, 0x76f988da,
    0x983e5152, 0xa831c66d, 0xb00327c8, 0xbf597fc7, 0xc6e00bf3, 0xd5a79147, 0x06ca6351, 0x14292967,
    0x27b70a85, 0x2e1b2138, 0x4d2c6dfc, 0x53380d13, 0x650a7354, 0x766a0abb, 0x81c2c92e, 0x92722c85,
    0xa2bfe8a1, 0xa81a664b, 0xc24b8b70, 0xc76c51a3, 0xd192e819, 0xd6990624, 0xf40e3585, 0x106aa070,
    0x19a4c116, 0x1e376c08, 0x2748774c, 0x34b0bcb5, 0x391c0cb3, 0x4ed8aa4a, 0x5b9cca4f, 0x682e6ff3,
    0x748f82ee, 0x78a5636f, 0x84c87814, 0x8cc70208, 0x90befffa, 0xa4506ceb, 0xbef9a3f7, 0xc67178f2]
def Hs : Sha.St := ⟨0x6a09e667, 0xbb67ae85, 0x3c6ef372, 0xa54ff53a, 0x510e527f, 0x9b05688c, 0x1f83d9ab, 0x5be0cd19⟩
/-- The two tables as they were laid. -/
def Tab (w : World) : Prop :=
  (∀ i, i < 64 → w.cell? ⟨1, i, none⟩ = some (.int .u32 (Ks.getD i 0))) ∧ (∀ i, i < 8 → w.cell? ⟨0, i, none⟩ = some (.int .u32 (Hs.list.getD i 0)))
theorem Tab.next {w w' : World} (h : Tab w) (hb : Below w.heap.size w w') : Tab w' := ⟨fun i hi => below_cell hb (h.1 i hi), fun i hi => below_cell hb (h.2 i hi)⟩

def mixL (s r : Sha.St) (k : Nat) : List Int := (s.plus r).list.take k ++ s.list.drop k
theorem mixL_get (s r : Sha.St) (k : Nat) (h : k < 8) : (mixL s r k).getD k 0 = s.list.getD k 0 := by
  match k, h with
  | 0, _ => rfl
  | 1, _ => rfl
  | 2, _ => rfl
  | 3, _ => rfl
  | 4, _ => rfl
  | 5, _ => rfl
  | 6, _ => rfl
  | 7, _ => rfl
theorem mixL_set (s r : Sha.St) (k : Nat) (h : k < 8) : (mixL s r k).set k ((s.list.getD k 0 + r.list.getD k 0) % 4294967296) = mixL s r (k + 1) := by
  match k, h with
  | 0, _ => rfl
  | 1, _ => rfl
  | 2, _ => rfl
  | 3, _ => rfl
  | 4, _ => rfl
  | 5, _ => rfl
  | 6, _ => rfl
  | 7, _ => rfl
theorem mixL_length (s r : Sha.St) (k : Nat) (h : k ≤ 8) : (mixL s r k).length = 8 := by
  simp [mixL, Sha.St.list]; omega
theorem index8 (r : Sha.St) (k : Nat) (h : k < 8) (w : World) : (Instr.index 66 (.agg r.cells) (.int .i64 k)).run Tryd.prog w = .ok (.int .u32 (r.list.getD k 0)) w := by
  match k, h with
  | 0, _ => rfl
  | 1, _ => rfl
  | 2, _ => rfl
  | 3, _ => rfl
  | 4, _ => rfl
  | 5, _ => rfl
  | 6, _ => rfl
  | 7, _ => rfl
def ThrHead (w wr : World) (l : List Int) : Prop := Row wr w.heap.size 66 (nums .u32 l) ∧ Row wr (w.heap.size + 1) 66 (nums .u32 [0, 0, 0, 0, 0, 0, 0, 0]) ∧ Below w.heap.size w wr
theorem ThrHead.start (w : World) (s : Sha.St) : ThrHead w ((w.alloc (.cells s.cells 66)).alloc (.cells (nums .u32 [0, 0, 0, 0, 0, 0, 0, 0]) 66)) s.list :=
  ⟨(Row.made w 66 s.cells).alloc _, Row.made2 _ _ _ _, ((Below.refl _ _).alloc (Nat.le_refl _) _).alloc (by simp) _⟩
theorem ThrHead.below {w wr w1 : World} {l : List Int} (h : ThrHead w wr l) (hb : Below wr.heap.size wr w1) : ThrHead w w1 l := ⟨h.1.next hb, h.2.1.next hb, below_new h.2.2 hb⟩
theorem ThrHead.put {w wr : World} {s r : Sha.St} {k : Nat} (h : ThrHead w wr (mixL s r k)) (hk : k < 8) : ThrHead w (wr.setCell ⟨w.heap.size, k, none⟩ (.int .u32 ((s.list.getD k 0 + r.list.getD k 0) % 4294967296))) (mixL s r (k + 1)) := by
  refine ⟨?_, h.2.1.far (by simp) _, h.2.2.setCell (by simp) _⟩
  have := h.1.numPut k ((s.list.getD k 0 + r.list.getD k 0) % 4294967296)
  rwa [mixL_set s r k hk] at this
theorem spread_at (b : ByteArray) (p : Nat) (w : World) (h : p + 64 ≤ b.size) :
    Calls Tryd.prog 44 #[.string (b.extract p (p + 64))] w fun ev w' => ev = .returned (.agg (nums .u32 (Sha.sched b p 48))) ∧ Below w.heap.size w w' :=
  (spread_any (b.extract p (p + 64)) (by rw [ByteArray.size_extract]; omega) w).mono fun e w' ⟨h1, h2⟩ =>
    ⟨by rw [h1, Sha.sched_congr (b.extract p (p + 64)) b 0 p 48 (fun i hi => by rw [Nat.zero_add]; exact getb_extract b p (p + 64) i (by omega) h)], h2⟩
theorem sched_64 (b : ByteArray) (p : Nat) : (Sha.sched b p 48).length = 64 := Sha.sched_length b p 48
theorem size64 (l : List Int) (h : l.length = 64) : (Tryd.prog.info? 60).map (·.size) = some (nums .u32 l).size := by rw [nums_size, h]; kernel_rfl
set_option maxHeartbeats 1000000 in
set_option maxRecDepth 100000 in
theorem through_any (s : Sha.St) (b : ByteArray) (n : Nat) (hb : b.size = 64 * n) (hm : b.size ≤ maxLen) (w : World) (hT : Tab w) (h8 : s.ok) :
    Calls Tryd.prog 40 #[.agg s.cells, .string b] w fun ev w' => ev = .returned (.agg (Sha.blocks Ks s b n).cells) ∧ Below w.heap.size w w' := by
  unfold maxLen at hm
  have hb1 : 64 * n ≤ b.size := by omega
  have hb2 : b.size ≤ 64 * n := by omega
  have HT := Lib.hid hT
  have H8 := Lib.hid h8
  clear hb hT h8
  have H0 := Lib.hid (ThrHead.start w s)
  go_enter Tryd.func40, Tryd.ntmps40
  go_wp2
  go_loopw [5] (fun i wr => ∃ j : Nat, j ≤ n ∧ i = .int .i64 ((64 * j : Nat) : Int) ∧ Hid (ThrHead w wr (Sha.blocks Ks s b j).list)) (fun i _ => (64 * n - intOf i).toNat)
  case atStart => exact ⟨0, by omega, rfl, H0⟩
  case round =>
    obtain ⟨j, hj, rfl, HH⟩ := hrel
    by_cases hlt : j < n
    · obtain ⟨st, hst⟩ : ∃ st, Hid (st = Sha.blocks Ks s b j) := ⟨_, Lib.hid rfl⟩
      rw [← hst.out] at HH
      have hok : Hid st.ok := Lib.hid (by rw [hst.out]; exact Sha.blocks_ok Ks s b H8.out j)
      go_wp2_with (first
        | (go_at_call 44; (with_reducible refine (spread_at b _ _ (by omega)).mono ?_); rintro e w1 ⟨rfl, hb1⟩)
        | (refine wpList_store_fresh rfl 60 _ _ rfl _ rfl rfl 60 _ (size64 _ (Sha.sched_length b (64 * j) 48)) (by rw [nums_size, Sha.sched_length]; rfl) (nums_one _ _) ?_
           intro w2 hS2 hb2
           have HQ : Hid (ThrHead w w2 st.list) := Lib.hid ((HH.out.below hb1).below hb2)
           have HS := Lib.hid hS2
           have HK2 := Lib.hid (HT.out.next HQ.out.2.2).1
           clear hS2 hb1 hb2
           have hR2 : Row w2 w.heap.size 66 st.cells := HQ.out.1)
        | (refine wpList_load_row rfl 66 _ rfl w.heap.size rfl 66 _ (0, 0) _ hR2 Tryd.underlying66 rfl size8 ?_)
        | (go_at_call 45; (with_reducible refine (turned_any st (Sha.sched b (64 * j) 48) Ks _ _ HS.out (sched_64 b (64 * j)) HK2.out hok.out).mono ?_); rintro e w3 ⟨rfl, hb3⟩))
      obtain ⟨r, hr⟩ : ∃ r, Hid (r = Sha.rnd Ks (Sha.sched b (64 * j) 48) st 64) := ⟨_, Lib.hid rfl⟩
      rw [← hr.out]
      have H3 : Hid (ThrHead w w3 (mixL st r 0)) := Lib.hid (HQ.out.below hb3)
      clear HQ hb3 hR2 HS
      go_loopw [7, 8, 23] (fun _ _ i wr => ∃ k : Nat, k ≤ 8 ∧ i = .int .i64 k ∧ Hid (ThrHead w wr (mixL st r k))) (fun _ _ i _ => (8 - intOf i).toNat)
      case atStart => exact ⟨0, by omega, rfl, H3⟩
      case round =>
        clear H3
        obtain ⟨k, hk, rfl, HK⟩ := hrel
        by_cases hk8 : k < 8
        · obtain ⟨x, hx⟩ : ∃ x, Hid (x = st.list.getD k 0) := ⟨_, Lib.hid rfl⟩
          obtain ⟨y, hy⟩ : ∃ y, Hid (y = r.list.getD k 0) := ⟨_, Lib.hid rfl⟩
          have hc := HK.out.1.num (i := k) (by rw [mixL_length _ _ _ hk]; omega)
          rw [mixL_get st r k hk8, ← hx.out] at hc
          have hf := HK.out.1.free k
          have hi := fun w => index8 r k hk8 w
          rw [← hy.out] at hi
          go_wp2
          go_roundw
          case rel => exact ⟨k + 1, by omega, by go_num, Lib.hid (by have h := HK.out.put hk8; rw [← hx.out, ← hy.out] at h; exact h)⟩
          case measure => simp [intOf]; omega
        · have hk9 : Hid (k = 8) := Lib.hid (by omega)
          go_wp2
          go_roundw
          case rel =>
            have h := HK.out
            rw [hk9.out, hr.out] at h
            exact ⟨j + 1, by omega, by go_num, Lib.hid (by rw [hst.out] at h; exact h)⟩
          case measure => simp [intOf]; omega
    · obtain rfl : n = j := by omega
      have h1 : Row wr w.heap.size 66 (Sha.blocks Ks s b n).cells := HH.out.1
      have h2 := HH.out.2.1
      go_wp2_with (first
        | (refine wpList_load_row rfl 66 _ rfl w.heap.size rfl 66 _ (0, 0) _ h1 Tryd.underlying66 rfl size8 ?_)
        | (refine wpList_store_row rfl 66 _ _ rfl (w.heap.size + 1) _ rfl rfl 66 _ h2 size8 rfl (one8 _ _ _ _ _ _ _ _) ?_))
      exact bodyPost_ret (results_cell_row rfl _ _ (w.heap.size + 1) 66 _ (0, 0) _ rfl (h2.whole _) Tryd.underlying66 rfl size8) rfl ⟨rfl, below_setRow HH.out.2.2 (by omega)⟩
end Go.Proofs.YtllabnhgiojmmaaDoor
