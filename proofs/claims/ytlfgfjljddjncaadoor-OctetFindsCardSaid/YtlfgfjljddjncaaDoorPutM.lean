/- Numbers put and got again. No walk. -/
import Derived.Test.YtlfgfjljddjncaaDoorRPut
namespace Go.Proofs.YtlfgfjljddjncaaDoor
set_option linter.unusedVariables false
open Go.ChangeShapes Go.WideShapes Go.ChangeAt Go.RowKit

theorem wrapu (z : Int) (h0 : 0 ≤ z) (h1 : z < 18446744073709551616) : IntKind.wrap .u64 z = z := by
  unfold IntKind.wrap
  simp [IntKind.bits, IntKind.signed]
  omega
theorem stepU_add (z : Int) (c : UInt8) (h0 : 0 ≤ z) (h1 : z < 72057594037927936) : stepU z c = z * 256 + c.toNat := by
  have hc := c.toNat_lt
  obtain ⟨m, rfl⟩ : ∃ m : Nat, z = m := ⟨z.toNat, by omega⟩
  unfold stepU
  rw [wrapu _ (by omega) (by omega), wrapu _ (by omega) (by omega)]
  have e : bits BinOp.or IntKind.u64 ((m : Int) * 256) (c.toNat : Int) = IntKind.wrap .u64 ((BitVec.ofInt 64 ((m : Int) * 256) ||| BitVec.ofInt 64 (c.toNat : Int)).toNat : Int) := rfl
  rw [e, BitVec.toNat_or, BitVec.toNat_ofInt, BitVec.toNat_ofInt]
  have e1 : (((m : Int) * 256) % ((2 : Nat) ^ 64 : Nat)).toNat = 2 ^ 8 * m := by omega
  have e2 : ((c.toNat : Int) % ((2 : Nat) ^ 64 : Nat)).toNat = c.toNat := by omega
  rw [e1, e2, ← Nat.two_pow_add_eq_or_of_lt (by omega) m, wrapu _ (by omega) (by omega)]
  omega
def byteOf (x : Int) : UInt8 := UInt8.ofNat x.toNat
theorem strOf_list (l : List Int) : (strOfNums l).data.toList = l.map byteOf := by
  simp [strOfNums, byteOf]
theorem pow_le (k : Nat) (h : k ≤ 7) : (256 : Int) ^ k ≤ 72057594037927936 := by
  have h3 : ∀ a < 8, (256 : Int) ^ a ≤ 72057594037927936 := by decide
  exact h3 k (by omega)
theorem mod_step (n m : Int) (hm : 0 < m) : (n / 256 % m) * 256 + n % 256 = n % (256 * m) := by
  have h1 := mod_div n m hm
  have h2 : n % (256 * m) % 256 = n % 256 := Int.emod_emod_of_dvd n (Int.dvd_mul_right _ _)
  generalize n % (256 * m) = t at *
  omega
theorem foldU_put : ∀ (k : Nat) (n : Int), k ≤ 8 → ((putL n k).map byteOf).foldl stepU 0 = n % 256 ^ k
  | 0, n, _ => by simp [putL, Int.emod_one]
  | k + 1, n, h => by
    have hp : (0 : Int) < 256 ^ k := Int.pow_pos (by omega)
    have hl := pow_le k (by omega)
    have b0 := Int.emod_nonneg (n / 256) (show (256 : Int) ^ k ≠ 0 by omega)
    have b1 := Int.emod_lt_of_pos (n / 256) hp
    rw [putL, List.map_append, List.foldl_append, foldU_put k (n / 256) (by omega)]
    simp only [List.map_cons, List.map_nil, List.foldl_cons, List.foldl_nil]
    rw [stepU_add _ _ b0 (by omega)]
    have hb : ((byteOf (n % 256)).toNat : Int) = n % 256 := by
      unfold byteOf
      simp only [UInt8.toNat_ofNat']
      omega
    rw [hb, mod_step n _ hp, Int.pow_succ, Int.mul_comm]
theorem numU_take (s : ByteArray) : ∀ k : Nat, k ≤ s.size → numU s 0 k = (s.data.toList.take k).foldl stepU 0
  | 0, _ => rfl
  | k + 1, h => by
    have e : ((0 : Int) + (k : Int)).toNat = k := by omega
    rw [numU, numU_take s k (by omega), str_take s k (by omega), List.foldl_append, e, byteAt_in (show k < s.size by omega)]
    rfl
theorem got (n : Int) (k : Nat) (h : k ≤ 8) : numU (strOfNums (putL n k)) 0 k = n % 256 ^ k := by
  have hs : (strOfNums (putL n k)).size = k := by rw [strOf_size, putL_len]
  rw [numU_take _ k (by omega), List.take_of_length_le (by rw [str_len, hs]; exact Nat.le_refl _), strOf_list, foldU_put k n h]
def backN (n : Int) (k : Nat) : Int := wrap64 (n % 256 ^ k)
theorem putP_in (n : Int) (k : Nat) (h : k ≤ 8) : putP n k = strOfNums (putL n k) := by
  unfold putP
  rw [if_pos (by omega), Int.toNat_natCast]
theorem get_put (n : Int) (k : Nat) (h1 : 1 ≤ k) (h : k ≤ 8) : getP (putP n k) 0 k = (backN n k, true) := by
  have hs : (strOfNums (putL n k)).size = k := by rw [strOf_size, putL_len]
  rw [putP_in n k h]
  unfold getP
  rw [if_pos (by omega), Int.toNat_natCast, got n k h]
  rfl
theorem back_small (n : Int) (k : Nat) (h : k ≤ 7) : backN n k = n % 256 ^ k := by
  have hp : (0 : Int) < 256 ^ k := Int.pow_pos (by omega)
  have hl := pow_le k h
  have b0 := Int.emod_nonneg n (show (256 : Int) ^ k ≠ 0 by omega)
  have b1 := Int.emod_lt_of_pos n hp
  unfold backN
  generalize n % 256 ^ k = x at *
  rw [wrap64]
  omega
theorem back_eight (n : Int) (h0 : -9223372036854775808 ≤ n) (h1 : n ≤ 9223372036854775807) : backN n 8 = n := by
  unfold backN
  rw [show (256 : Int) ^ 8 = 18446744073709551616 by decide, wrap64]
  omega
theorem put_again (n : Int) (k : Nat) (h : k ≤ 8) (h0 : -9223372036854775808 ≤ n) (h1 : n ≤ 9223372036854775807) : putP (backN n k) k = putP n k := by
  rcases Nat.lt_or_ge k 8 with h2 | h2
  · rw [putP_in _ k h, putP_in _ k h, back_small n k (by omega), putL_mod k k n (Nat.le_refl _)]
  · obtain rfl : k = 8 := by omega
    rw [back_eight n h0 h1]
theorem back_same (n : Int) (k : Nat) (h : k ≤ 7) (h0 : 0 ≤ n) (h1 : n < 256 ^ k) : backN n k = n := by
  rw [back_small n k h]
  exact Int.emod_eq_of_lt h0 h1
end Go.Proofs.YtlfgfjljddjncaaDoor
