/- Decimal numerals, read back: what Atoi gives at an int's text; what the reference's fold gives there. No walk. -/
import Derived.Test.YtnkfimpfnofhnaaDoorNumT
import Derived.Lib.ItoaLen
import Derived.Lib.AtoiAllCases
namespace Go.Proofs.YtnkfimpfnofhnaaDoor
set_option linter.unusedVariables false
open Go.ChangeShapes Go.WideShapes Go.ChangeAt Go.RowKit

theorem p10_app : ∀ (a b : List UInt8) (acc v : Nat), Lib.parseUint10 acc a = .ok v → Lib.parseUint10 acc (a ++ b) = Lib.parseUint10 v b
  | [], b, acc, v, h => by simp only [Lib.parseUint10] at h; injection h with h; rw [h]; rfl
  | c :: a, b, acc, v, h => by
    simp only [List.cons_append, Lib.parseUint10] at h ⊢
    by_cases h1 : 48 ≤ c.toNat ∧ c.toNat ≤ 57
    · rw [if_pos h1] at h ⊢
      by_cases h2 : 1844674407370955162 ≤ acc
      · rw [if_pos h2] at h; cases h
      · rw [if_neg h2] at h ⊢
        by_cases h3 : 18446744073709551616 ≤ acc * 10 + (c.toNat - 48)
        · rw [if_pos h3] at h; cases h
        · rw [if_neg h3] at h ⊢
          exact p10_app a b _ v h
    · rw [if_neg h1] at h; cases h
theorem digit_nat {d : Nat} (h : d < 10) : (UInt8.ofNat (48 + d)).toNat = 48 + d := by
  simp only [UInt8.toNat_ofNat']
  omega
theorem p10_one (v d : Nat) (hd : d < 10) (hv : v * 10 + d < 18446744073709551616) : Lib.parseUint10 v [UInt8.ofNat (48 + d)] = .ok (v * 10 + d) := by
  simp only [Lib.parseUint10, digit_nat hd]
  rw [if_pos (by omega), if_neg (by omega), if_neg (by omega), show 48 + d - 48 = d by omega]
theorem p10_dec (u : Nat) (h : u < 18446744073709551616) : Lib.parseUint10 0 (Lib.decDigits u) = .ok u := by
  induction u using Nat.strongRecOn with
  | ind u ih =>
    rw [Lib.decDigits]
    split
    · rename_i h1
      rw [p10_one 0 u h1 (by omega), Nat.zero_mul, Nat.zero_add]
    · rename_i h1
      rw [p10_app _ _ _ _ (ih (u / 10) (by omega) (by omega)), p10_one _ _ (by omega) (by omega)]
      congr 1
      omega
theorem dec_ne (u : Nat) : Lib.decDigits u ≠ [] := by
  rw [Lib.decDigits]
  split <;> simp
theorem dec_bytes (u : Nat) : ∀ c ∈ Lib.decDigits u, 48 ≤ c.toNat ∧ c.toNat ≤ 57 := by
  induction u using Nat.strongRecOn with
  | ind u ih =>
    intro c hc
    rw [Lib.decDigits] at hc
    split at hc
    · rename_i h1
      simp only [List.mem_singleton] at hc
      rw [hc, digit_nat h1]; omega
    · rename_i h1
      simp only [List.mem_append, List.mem_singleton] at hc
      rcases hc with hc | hc
      · exact ih (u / 10) (by omega) c hc
      · rw [hc, digit_nat (by omega)]; omega
theorem mag_dec (u : Nat) (h : u < 18446744073709551616) : Lib.parseMag (Lib.decDigits u) = .ok u := by
  unfold Lib.parseMag
  rw [if_neg (dec_ne u), p10_dec u h]
theorem atoi_itoa (n : Int) (hlo : -9223372036854775808 ≤ n) (hhi : n ≤ 9223372036854775807) : Lib.atoiAll (Lib.itoa n) = .ok n := by
  unfold Lib.itoa
  by_cases h : n < 0
  · rw [if_pos h]
    simp only [Lib.atoiAll]
    rw [if_pos (.inr (by decide)), mag_dec _ (by omega)]
    simp only [show (45 : UInt8).toNat = 45 from rfl]
    rw [if_neg (by simp), if_neg (by omega), if_pos trivial]
    congr 1
    omega
  · rw [if_neg h]
    obtain ⟨c, r, hc⟩ : ∃ c r, Lib.decDigits n.toNat = c :: r := List.exists_cons_of_ne_nil (dec_ne _)
    have hb := dec_bytes n.toNat c (by rw [hc]; exact List.mem_cons_self)
    have hm := mag_dec n.toNat (by omega)
    rw [hc] at hm ⊢
    simp only [Lib.atoiAll]
    rw [if_neg (by omega), hm]
    simp only
    rw [if_neg (by omega), if_neg (by omega), if_neg (by omega)]
    congr 1
    omega
theorem parse_itoa (n : Int) (hlo : -9223372036854775808 ≤ n) (hhi : n ≤ 9223372036854775807) : parseP ⟨(Lib.itoa n).toArray⟩ = if inN n then (n, true) else (0, false) := by
  unfold parseP
  have e : (⟨(Lib.itoa n).toArray⟩ : ByteArray).toList = Lib.itoa n := by rw [ByteArray.toList_eq]
  rw [show (⟨(Lib.itoa n).toArray⟩ : ByteArray).data.toList = Lib.itoa n from rfl, atoi_itoa n hlo hhi, e]
  simp

/-- The reference's fold over the bytes: digits count, others are passed over. -/
def stepD (n : Int) (c : UInt8) : Int := if 48 ≤ c.toNat ∧ c.toNat ≤ 57 then 10 * n + c.toNat - 48 else n
def foldD (l : List UInt8) : Int := l.foldl stepD 0
theorem foldD_bound : ∀ (l : List UInt8) (n : Int) (k : Nat), 0 ≤ n → n < 10 ^ k → 0 ≤ l.foldl stepD n ∧ l.foldl stepD n < 10 ^ (k + l.length)
  | [], n, k, h0, h1 => ⟨h0, h1⟩
  | c :: l, n, k, h0, h1 => by
    have hp : (10 : Int) ^ (k + 1) = 10 * 10 ^ k := by rw [Int.pow_succ]; omega
    have := foldD_bound l (stepD n c) (k + 1) (by unfold stepD; split <;> omega) (by unfold stepD; split <;> omega)
    rw [List.foldl_cons, List.length_cons, show k + (l.length + 1) = k + 1 + l.length by omega]
    exact this
theorem foldD_range (l : List UInt8) (h : l.length ≤ 17) : 0 ≤ foldD l ∧ foldD l ≤ 99999999999999999 := by
  have := foldD_bound l 0 0 (by omega) (by decide)
  have h3 : ∀ a < 18, (10 : Int) ^ a ≤ 10 ^ 17 := by decide
  have h2 := h3 (0 + l.length) (by omega)
  unfold foldD
  have : (10 : Int) ^ 17 = 100000000000000000 := by decide
  omega
theorem foldD_dec (u : Nat) : foldD (Lib.decDigits u) = u := by
  unfold foldD
  induction u using Nat.strongRecOn with
  | ind u ih =>
    rw [Lib.decDigits]
    split
    · rename_i h1
      simp only [List.foldl_cons, List.foldl_nil, stepD, digit_nat h1]
      rw [if_pos (by omega)]; omega
    · rename_i h1
      rw [List.foldl_append, ih (u / 10) (by omega)]
      simp only [List.foldl_cons, List.foldl_nil, stepD, digit_nat (show u % 10 < 10 by omega)]
      rw [if_pos (by omega)]; omega
/-- The number that the reference tries. -/
def tryD (l : List UInt8) : Int := if l.head? = some 45 then - foldD l else foldD l
theorem tryD_itoa (n : Int) : tryD (Lib.itoa n) = n := by
  unfold tryD Lib.itoa
  by_cases h : n < 0
  · rw [if_pos h]
    simp only [List.head?_cons, if_true]
    have : foldD (45 :: Lib.decDigits n.natAbs) = foldD (Lib.decDigits n.natAbs) := rfl
    rw [this, foldD_dec]
    omega
  · rw [if_neg h]
    obtain ⟨c, r, hc⟩ : ∃ c r, Lib.decDigits n.toNat = c :: r := List.exists_cons_of_ne_nil (dec_ne _)
    have hb := dec_bytes n.toNat c (by rw [hc]; exact List.mem_cons_self)
    have hf := foldD_dec n.toNat
    rw [hc] at hf ⊢
    rw [if_neg (by simp only [List.head?_cons]; intro he; injection he with he; rw [he] at hb; revert hb; decide), hf]
    omega
def rparseP (s : ByteArray) : Int × Bool := if 17 < s.size then (0, false) else if inN (tryD s.data.toList) && (Lib.itoa (tryD s.data.toList) == s.data.toList) then (tryD s.data.toList, true) else (0, false)
theorem nd_le : ∀ k u, u < 10 ^ (k + 1) → Lib.nDigits u ≤ k + 1
  | 0, u, h => by rw [Lib.nDigits_small (by simpa using h)]; omega
  | k + 1, u, h => by
    by_cases h1 : u < 10
    · rw [Lib.nDigits_small h1]; omega
    · rw [Lib.nDigits_big h1]
      have := nd_le k (u / 10) (by rw [Nat.pow_succ] at h; omega)
      omega
theorem itoa_len17 (n : Int) (h : inN n = true) : (Lib.itoa n).length ≤ 17 := by
  have hb := (inN_iff n).1 h
  have hd : ∀ u : Nat, u ≤ 1000000000000000 → (Lib.decDigits u).length ≤ 16 := by
    intro u hu
    rw [Lib.decDigits_length]
    exact nd_le 15 u (by omega)
  unfold Lib.itoa
  split
  · have := hd n.natAbs (by omega); simp only [List.length_cons]; omega
  · have := hd n.toNat (by omega); omega
theorem parse_same (s : ByteArray) : rparseP s = parseP s := by
  have e : s.toList = s.data.toList := ByteArray.toList_eq s
  have hz : s.data.toList.length = s.size := by rw [Array.length_toList]; rfl
  by_cases hx : ∃ n, inN n = true ∧ Lib.itoa n = s.data.toList
  · obtain ⟨n, hn, hs⟩ := hx
    have hb := (inN_iff n).1 hn
    have hl := itoa_len17 n hn
    unfold rparseP parseP
    rw [← hs, tryD_itoa, atoi_itoa n (by omega) (by omega), if_neg (by rw [← hz, ← hs]; omega), e, ← hs]
  · have h1 : parseP s = (0, false) := by
      unfold parseP
      cases h : Lib.atoiAll s.data.toList with
      | ok v =>
        simp only [e]
        split
        · rename_i h2
          simp only [Bool.and_eq_true, beq_iff_eq] at h2
          exact absurd ⟨v, h2⟩ hx
        · rfl
      | _ => rfl
    rw [h1]
    unfold rparseP
    split
    · rfl
    · split
      · rename_i h2
        simp only [Bool.and_eq_true, beq_iff_eq] at h2
        exact absurd ⟨_, h2⟩ hx
      · rfl
end Go.Proofs.YtnkfimpfnofhnaaDoor
