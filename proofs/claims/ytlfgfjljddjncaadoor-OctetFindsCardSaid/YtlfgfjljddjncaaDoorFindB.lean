/- A burst of at most 32 turned bits always turns the checksum. No walk. -/
import Derived.Test.YtlfgfjljddjncaaDoorFindM
import Derived.Test.YtlfgfjljddjncaaDoorSumW
namespace Go.Proofs.YtlfgfjljddjncaaDoor
set_option linter.unusedVariables false
open Go.ChangeShapes Go.WideShapes Go.ChangeAt Go.RowKit

theorem rep_add : ∀ (m k a : Nat), Nat.repeat stepN (m + k) a = Nat.repeat stepN m (Nat.repeat stepN k a)
  | 0, k, a => by rw [Nat.zero_add]; rfl
  | m + 1, k, a => by
    rw [show m + 1 + k = (m + k) + 1 by omega]
    show stepN (Nat.repeat stepN (m + k) a) = stepN (Nat.repeat stepN m (Nat.repeat stepN k a))
    rw [rep_add m k a]
theorem stepN_twice (a : Nat) : stepN (a * 2) = a := by
  unfold stepN
  rw [if_neg (by omega)]
  omega
theorem rep_shift : ∀ (k a : Nat), Nat.repeat stepN k (a * 2 ^ k) = a
  | 0, a => by simp [Nat.repeat]
  | k + 1, a => by
    show stepN (Nat.repeat stepN k (a * 2 ^ (k + 1))) = a
    rw [show a * 2 ^ (k + 1) = (a * 2) * 2 ^ k by rw [Nat.pow_succ, Nat.mul_assoc, Nat.mul_comm 2], rep_shift k, stepN_twice]
theorem low_high (x : Nat) : x = (x % 256) ^^^ (x / 256 * 256) := by
  apply Nat.eq_of_testBit_eq
  intro i
  rw [Nat.testBit_xor, show (256 : Nat) = 2 ^ 8 from rfl, Nat.testBit_mod_two_pow, Nat.testBit_mul_two_pow, Nat.testBit_div_two_pow]
  by_cases h : i < 8
  · simp [h, show ¬ 8 ≤ i by omega]
  · simp [h, show 8 ≤ i by omega]
/-- The n lowest bytes of a number, the lowest first. -/
def bytesN (x : Nat) : Nat → List Nat
  | 0 => []
  | n + 1 => x % 256 :: bytesN (x / 256) n
theorem bytesN_len : ∀ (n x : Nat), (bytesN x n).length = n
  | 0, _ => rfl
  | n + 1, x => by rw [bytesN, List.length_cons, bytesN_len n]
theorem sumN_bytes : ∀ (n x z : Nat), x < 256 ^ n → sumN z (bytesN x n) = Nat.repeat stepN (8 * n) (z ^^^ x)
  | 0, x, z, h => by
    have : x = 0 := by simpa using h
    subst this
    simp [bytesN, sumN, Nat.repeat]
  | n + 1, x, z, h => by
    have h2 : x / 256 < 256 ^ n := by rw [Nat.pow_succ] at h; omega
    show sumN (Nat.repeat stepN 8 (z ^^^ (x % 256))) (bytesN (x / 256) n) = _
    rw [sumN_bytes n (x / 256) _ h2, show 8 * (n + 1) = 8 * n + 8 by omega, rep_add]
    congr 1
    have e : z ^^^ x = (z ^^^ (x % 256)) ^^^ (x / 256 * 2 ^ 8) := by
      conv => lhs; rw [low_high x]
      rw [Nat.xor_assoc]
    rw [e, rep_xor 8 (z ^^^ (x % 256)) (x / 256 * 2 ^ 8), rep_shift]
theorem burst (m at' n : Nat) (hm : m < 4294967296) (ha : at' ≤ 8 * n) (h : m * 2 ^ at' < 256 ^ n) (h0 : sumN 0 (bytesN (m * 2 ^ at') n) = 0) : m = 0 := by
  rw [sumN_bytes n _ 0 h, Nat.zero_xor, show 8 * n = (8 * n - at') + at' by omega, rep_add, rep_shift] at h0
  exact rep_zero _ m hm h0
/-- Bytes turned by the bits of a number. -/
def turnL : List UInt8 → Nat → List UInt8
  | [], _ => []
  | c :: l, x => (c ^^^ UInt8.ofNat x) :: turnL l (x / 256)
theorem turnL_len : ∀ (l : List UInt8) (x : Nat), (turnL l x).length = l.length
  | [], _ => rfl
  | c :: l, x => by rw [turnL, List.length_cons, turnL_len l, List.length_cons]
theorem turnL_zero : ∀ l : List UInt8, turnL l 0 = l
  | [] => rfl
  | c :: l => by rw [turnL, turnL_zero l]; simp
theorem turnL_nat : ∀ (l : List UInt8) (x : Nat), (turnL l x).map (·.toNat) = List.zipWith (· ^^^ ·) (l.map (·.toNat)) (bytesN x l.length)
  | [], _ => rfl
  | c :: l, x => by
    simp only [turnL, List.map_cons, List.length_cons, bytesN, List.zipWith_cons_cons, turnL_nat l]
    congr 1
theorem turnL_same : ∀ (l : List UInt8) (x : Nat), x < 256 ^ l.length → turnL l x = l → x = 0
  | [], x, h, _ => by simpa using h
  | c :: l, x, h, e => by
    simp only [turnL, List.cons.injEq] at e
    have h2 : x / 256 < 256 ^ l.length := by rw [List.length_cons, Nat.pow_succ] at h; omega
    have h3 := turnL_same l (x / 256) h2 e.2
    have h4 := congrArg UInt8.toNat e.1
    rw [UInt8.toNat_xor] at h4
    have h5 : (UInt8.ofNat x).toNat = 0 := by
      have : c.toNat ^^^ (c.toNat ^^^ (UInt8.ofNat x).toNat) = c.toNat ^^^ c.toNat := by rw [h4]
      rwa [← Nat.xor_assoc, Nat.xor_self, Nat.zero_xor] at this
    rw [UInt8.toNat_ofNat'] at h5
    omega
/-- One more bit is turned. -/
theorem turnL_bit : ∀ (l : List UInt8) (p x : Nat) (d : UInt8), x < 2 ^ p → p < 8 * l.length → turnL l (x + 2 ^ p) = (turnL l x).set (p / 8) ((turnL l x).getD (p / 8) d ^^^ UInt8.ofNat (2 ^ (p % 8)))
  | [], p, _, _, _, h => by simp at h
  | c :: l, p, x, d, hx, hp => by
    by_cases h : p < 8
    · have e1 : p / 8 = 0 := by omega
      have e2 : p % 8 = p := by omega
      have hp8 : 2 ^ p ≤ 2 ^ 7 := Nat.pow_le_pow_right (by omega) (by omega)
      have e3 : (x + 2 ^ p) / 256 = x / 256 := by omega
      simp only [turnL, e1, e2, e3, List.set_cons_zero, List.getD_cons_zero]
      congr 1
      rw [UInt8.xor_assoc]
      congr 1
      apply UInt8.toNat_inj.1
      rw [UInt8.toNat_xor, UInt8.toNat_ofNat', UInt8.toNat_ofNat', UInt8.toNat_ofNat', Nat.mod_eq_of_lt (show x + 2 ^ p < 2 ^ 8 by omega), Nat.mod_eq_of_lt (show x < 2 ^ 8 by omega), Nat.mod_eq_of_lt (show 2 ^ p < 2 ^ 8 by omega)]
      apply Nat.eq_of_testBit_eq
      intro i
      rw [Nat.testBit_xor, Nat.add_comm]
      by_cases hi : i = p
      · subst hi
        rw [Nat.testBit_two_pow_add_eq, Nat.testBit_lt_two_pow hx, Nat.testBit_two_pow_self]; rfl
      · rw [Nat.testBit_two_pow_of_ne (Ne.symm hi), Bool.xor_false]
        by_cases hi2 : i < p
        · rw [Nat.testBit_two_pow_add_gt hi2]
        · rw [Nat.testBit_lt_two_pow (x := x) (Nat.lt_of_lt_of_le hx (Nat.pow_le_pow_right (by omega) (by omega))), Nat.testBit_lt_two_pow]
          calc 2 ^ p + x < 2 ^ p + 2 ^ p := by omega
            _ = 2 ^ (p + 1) := by rw [Nat.pow_succ]; omega
            _ ≤ 2 ^ i := Nat.pow_le_pow_right (by omega) (by omega)
    · obtain ⟨q, rfl⟩ : ∃ q, p = q + 8 := ⟨p - 8, by omega⟩
      have e1 : (q + 8) / 8 = q / 8 + 1 := by omega
      have e2 : (q + 8) % 8 = q % 8 := by omega
      have ep : 2 ^ (q + 8) = 2 ^ q * 256 := by rw [Nat.pow_add]
      have e3 : (x + 2 ^ (q + 8)) / 256 = x / 256 + 2 ^ q := by rw [ep]; omega
      have hx2 : x / 256 < 2 ^ q := by rw [ep] at hx; omega
      have ih := turnL_bit l q (x / 256) d hx2 (by simp at hp; omega)
      simp only [turnL, e1, e2, e3, List.set_cons_succ, List.getD_cons_succ]
      rw [ih]
      congr 1
      congr 1
      apply UInt8.toNat_inj.1
      rw [UInt8.toNat_ofNat', UInt8.toNat_ofNat', ep]
      omega
theorem step_nat (z : Nat) (c : UInt8) (h : z < 4294967296) : stepS (z : Int) c = ((Nat.repeat stepN 8 (z ^^^ c.toNat) : Nat) : Int) := by
  have hc := c.toNat_lt
  have hx := xor64 z c.toNat h (by omega)
  obtain ⟨v, h1, h2, h3⟩ := step_same z c h
  obtain ⟨u, g1, g2, g3⟩ := stepsR_nat 8 _ hx.2
  rw [h1, ← g3, ← g1, ← h2]
  unfold rstep rin
  rw [wrapu _ (by omega) (by omega), hx.1]
theorem sumL_nat : ∀ (l : List UInt8) (z : Nat), z < 4294967296 → l.foldl stepS (z : Int) = (sumN z (l.map (·.toNat)) : Nat)
  | [], _, _ => rfl
  | c :: l, z, h => by
    have hc := c.toNat_lt
    have hx : z ^^^ c.toNat < 4294967296 := Nat.xor_lt_two_pow (n := 32) h (by omega)
    rw [List.foldl_cons, step_nat z c h, sumL_nat l _ (rep_lt 8 _ hx)]
    rfl
theorem sumP_nat (s : ByteArray) : sumP s = ((4294967295 ^^^ sumN 4294967295 (s.data.toList.map (·.toNat)) : Nat) : Int) := by
  have h := sumL_nat s.data.toList 4294967295 (by omega)
  have hl : sumN 4294967295 (s.data.toList.map (·.toNat)) < 4294967296 := sumN_lt _ _ (by omega) (by intro c hc; obtain ⟨d, _, rfl⟩ := List.mem_map.1 hc; have := d.toNat_lt; omega)
  unfold sumP sumL
  rw [show ((4294967295 : Nat) : Int) = 4294967295 from rfl] at h
  rw [h, show IntKind.u32.max = ((4294967295 : Nat) : Int) by rfl, xor32 _ _ (by omega) hl]
  have : 4294967295 ^^^ sumN 4294967295 (s.data.toList.map (·.toNat)) < 4294967296 := Nat.xor_lt_two_pow (n := 32) (by omega) hl
  exact IntWalk.wrap64_in _ (by omega)
theorem xor_cancel {a b c : Nat} (h : a ^^^ b = a ^^^ c) : b = c := by
  have h2 : a ^^^ (a ^^^ b) = a ^^^ (a ^^^ c) := by rw [h]
  rwa [← Nat.xor_assoc, Nat.xor_self, Nat.zero_xor, ← Nat.xor_assoc, Nat.xor_self, Nat.zero_xor] at h2
/-- Bytes turned by a burst have another sum, unless nothing was turned. -/
theorem turned_sum (s t : ByteArray) (m at' : Nat) (hm : m < 4294967296) (ha : at' ≤ 8 * s.size) (h : m * 2 ^ at' < 256 ^ s.size) (ht : t.data.toList = turnL s.data.toList (m * 2 ^ at')) (he : sumP t = sumP s) : t = s := by
  rw [sumP_nat, sumP_nat, ht, turnL_nat] at he
  have hl : s.data.toList.length = s.size := str_len s
  have he2 := xor_cancel (Int.ofNat.inj he)
  have hx := sumN_xor (s.data.toList.map (·.toNat)) (bytesN (m * 2 ^ at') s.size) 4294967295 0 (by rw [List.length_map, bytesN_len, hl])
  rw [Nat.xor_zero] at hx
  rw [hl, hx] at he2
  have h0 : sumN 0 (bytesN (m * 2 ^ at') s.size) = 0 := by
    refine xor_cancel (a := sumN 4294967295 (s.data.toList.map (·.toNat))) ?_
    rw [he2, Nat.xor_zero]
  have := burst m at' s.size hm ha h h0
  subst this
  apply ByteArray.ext
  apply Array.ext'
  rw [ht, Nat.zero_mul, turnL_zero]
end Go.Proofs.YtlfgfjljddjncaaDoor
