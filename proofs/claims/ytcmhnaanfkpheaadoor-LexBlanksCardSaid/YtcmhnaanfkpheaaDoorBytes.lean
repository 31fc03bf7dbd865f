/- Numbers as bytes, the highest first. No walk. -/
import Derived.Test.YtcmhnaanfkpheaaDoorLib
import Derived.Laws.BytesArg
import Derived.Laws.BitsLemmas
namespace Go.Proofs.YtcmhnaanfkpheaaDoor
set_option linter.unusedVariables false
open Go.ChangeShapes Go.WideShapes Go.ChangeAt Go.RowKit

def putL (n : Int) : Nat → List Int
  | 0 => []
  | k + 1 => putL (n / 256) k ++ [n % 256]
def byteOf (x : Int) : UInt8 := UInt8.ofNat x.toNat
theorem mod_div (n m : Int) (hm : 0 < m) : n % (256 * m) / 256 = (n / 256) % m := by
  have h1 : n = 256 * ((n / 256) % m) + n % 256 + 256 * m * (n / 256 / m) := by
    have a := Int.emod_add_mul_ediv (n / 256) m
    have b := Int.emod_add_mul_ediv n 256
    have c : 256 * m * (n / 256 / m) = 256 * (m * (n / 256 / m)) := Int.mul_assoc _ _ _
    rw [c]
    generalize m * (n / 256 / m) = y at *
    omega
  have h2 := Int.emod_nonneg (n / 256) (show m ≠ 0 by omega)
  have h3 := Int.emod_lt_of_pos (n / 256) hm
  have h4 : n % (256 * m) = 256 * ((n / 256) % m) + n % 256 := by
    conv => lhs; rw [h1]
    rw [Int.add_mul_emod_self_left]
    generalize n / 256 % m = t at *
    exact Int.emod_eq_of_lt (by omega) (by omega)
  rw [h4]
  omega
theorem putL_mod : ∀ (k m : Nat) (n : Int), k ≤ m → putL (n % 256 ^ m) k = putL n k
  | 0, _, _, _ => rfl
  | k + 1, m, n, h => by
    obtain ⟨m, rfl⟩ : ∃ m', m = m' + 1 := ⟨m - 1, by omega⟩
    have hp : (0 : Int) < 256 ^ m := Int.pow_pos (by omega)
    have e1 : n % 256 ^ (m + 1) % 256 = n % 256 := by
      rw [Int.pow_succ]
      exact Int.emod_emod_of_dvd n (Int.dvd_mul_left _ _)
    have e2 : n % 256 ^ (m + 1) / 256 = (n / 256) % 256 ^ m := by
      rw [Int.pow_succ, Int.mul_comm (256 ^ m) 256]
      exact mod_div n _ hp
    rw [putL, putL, e1, e2, putL_mod k m (n / 256) (by omega)]
theorem mod_step (n m : Int) (hm : 0 < m) : (n / 256 % m) * 256 + n % 256 = n % (256 * m) := by
  have h1 := mod_div n m hm
  have h2 : n % (256 * m) % 256 = n % 256 := Int.emod_emod_of_dvd n (Int.dvd_mul_right _ _)
  generalize n % (256 * m) = t at *
  omega
theorem putL_len : ∀ (k : Nat) (n : Int), (putL n k).length = k
  | 0, _ => rfl
  | k + 1, n => by rw [putL, List.length_append, putL_len k]; rfl
def stepB (z : Int) (c : UInt8) : Int := z * 256 + c.toNat
def foldB (l : List UInt8) : Int := l.foldl stepB 0
theorem foldB_snoc (l : List UInt8) (c : UInt8) : foldB (l ++ [c]) = foldB l * 256 + c.toNat := by simp [foldB, stepB]
theorem foldB_range : ∀ (n : Nat) (l : List UInt8), l.length = n → 0 ≤ foldB l ∧ foldB l < 256 ^ n
  | 0, l, h => by
    obtain rfl := List.eq_nil_of_length_eq_zero h
    decide
  | n + 1, l, h => by
    rcases List.eq_nil_or_concat l with rfl | ⟨l', c, rfl⟩
    · simp at h
    · rw [List.concat_eq_append] at *
      have ih := foldB_range n l' (by simpa using h)
      have hc := c.toNat_lt
      rw [foldB_snoc, Int.pow_succ]
      omega
theorem byteOf_toNat (x : Int) : ((byteOf (x % 256)).toNat : Int) = x % 256 := by
  unfold byteOf
  rw [UInt8.toNat_ofNat']
  omega
theorem byteOf_nat (c : UInt8) : byteOf (c.toNat : Int) = c := by
  unfold byteOf
  rw [Int.toNat_natCast]
  exact UInt8.ofNat_toNat
theorem foldB_put : ∀ (k : Nat) (n : Int), foldB ((putL n k).map byteOf) = n % 256 ^ k
  | 0, n => by simp [putL, foldB]
  | k + 1, n => by
    have hp : (0 : Int) < 256 ^ k := Int.pow_pos (by omega)
    rw [putL, List.map_append, List.map_singleton, foldB_snoc, foldB_put k, byteOf_toNat, mod_step n _ hp, Int.pow_succ, Int.mul_comm]
theorem put_foldB : ∀ (k : Nat) (l : List UInt8), l.length = k → (putL (foldB l) k).map byteOf = l
  | 0, l, h => by
    obtain rfl := List.eq_nil_of_length_eq_zero h
    rfl
  | k + 1, l, h => by
    rcases List.eq_nil_or_concat l with rfl | ⟨l', c, rfl⟩
    · simp at h
    · rw [List.concat_eq_append] at *
      have hc := c.toNat_lt
      have e1 : (foldB l' * 256 + (c.toNat : Int)) / 256 = foldB l' := by omega
      have e2 : (foldB l' * 256 + (c.toNat : Int)) % 256 = c.toNat := by omega
      rw [foldB_snoc, putL, e1, e2, List.map_append, List.map_singleton, put_foldB k l' (by simpa using h), byteOf_nat]
def word8 (n : Int) : List UInt8 := (putL n 8).map byteOf
def numB (l : List UInt8) : Int := IntKind.i64.wrap (foldB l)
theorem word8_len (n : Int) : (word8 n).length = 8 := by rw [word8, List.length_map, putL_len]
theorem wrap_mod64 (z : Int) : IntKind.i64.wrap z % 256 ^ 8 = z % 256 ^ 8 := by
  rw [IntKind.wrap_i64]
  omega
theorem num_word (n : Int) (h0 : -9223372036854775808 ≤ n) (h1 : n ≤ 9223372036854775807) : numB (word8 n) = n := by
  unfold numB word8
  rw [foldB_put, IntKind.wrap_i64]
  omega
theorem word_num (l : List UInt8) (h : l.length = 8) : word8 (numB l) = l := by
  unfold word8 numB
  rw [← putL_mod 8 8 _ (Nat.le_refl _), wrap_mod64, putL_mod 8 8 _ (Nat.le_refl _)]
  exact put_foldB 8 l h
theorem numB_range (l : List UInt8) : -9223372036854775808 ≤ numB l ∧ numB l ≤ 9223372036854775807 := by
  unfold numB
  rw [IntKind.wrap_i64]
  omega
/-- A shift and a bitwise or, on an int, as a sum. -/
theorem or64 (z : Int) (c : UInt8) (h0 : 0 ≤ z) (h1 : z < 256 ^ 7) : bits BinOp.or IntKind.i64 (IntKind.i64.wrap (z * 256)) (c.toNat : Int) = IntKind.i64.wrap (z * 256 + c.toNat) := by
  have hc := c.toNat_lt
  obtain ⟨m, rfl⟩ : ∃ m : Nat, z = m := ⟨z.toNat, by omega⟩
  have e : bits BinOp.or IntKind.i64 (IntKind.i64.wrap ((m : Int) * 256)) (c.toNat : Int) = IntKind.wrap .i64 ((BitVec.ofInt 64 (IntKind.i64.wrap ((m : Int) * 256)) ||| BitVec.ofInt 64 (c.toNat : Int)).toNat : Int) := rfl
  rw [e, BitVec.toNat_or, BitVec.toNat_ofInt, BitVec.toNat_ofInt]
  have hm : (m : Int) < 72057594037927936 := h1
  have e1 : ((IntKind.i64.wrap ((m : Int) * 256)) % ((2 : Nat) ^ 64 : Nat)).toNat = 2 ^ 8 * m := by rw [IntKind.wrap_i64]; omega
  have e2 : ((c.toNat : Int) % ((2 : Nat) ^ 64 : Nat)).toNat = c.toNat := by omega
  rw [e1, e2, ← Nat.two_pow_add_eq_or_of_lt (by omega) m]
  congr 1
  omega
end Go.Proofs.YtcmhnaanfkpheaaDoor
