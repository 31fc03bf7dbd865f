/- The table's checksum is the bits' checksum. No walk. -/
import Derived.Test.YtlfgfjljddjncaaDoorRSum
namespace Go.Proofs.YtlfgfjljddjncaaDoor
set_option linter.unusedVariables false
open Go.ChangeShapes Go.WideShapes Go.ChangeAt Go.RowKit

theorem xor_half (a b : Nat) : (a ^^^ b) / 2 = a / 2 ^^^ b / 2 := by
  have h := Nat.shiftRight_xor_distrib (a := a) (b := b) (i := 1)
  simpa [Nat.shiftRight_eq_div_pow] using h
theorem xor_par (a b : Nat) (h : b % 2 = 0) : (a ^^^ b) % 2 = a % 2 := by
  have h2 := Nat.xor_mod_two_pow (a := a) (b := b) (n := 1)
  simp only [Nat.pow_one] at h2
  rw [h2, h, Nat.xor_zero]
def stepN (u : Nat) : Nat := if u % 2 = 1 then (u / 2) ^^^ 3988292384 else u / 2
theorem stepN_1 (a c : Nat) (hc : c % 2 = 0) (h : a % 2 = 1) : stepN (a ^^^ c) = (a / 2) ^^^ (c / 2 ^^^ 3988292384) := by
  unfold stepN
  rw [xor_par a c hc, if_pos h, xor_half, Nat.xor_assoc]
theorem stepN_0 (a c : Nat) (hc : c % 2 = 0) (h : ¬ a % 2 = 1) : stepN (a ^^^ c) = (a / 2) ^^^ (c / 2) := by
  unfold stepN
  rw [xor_par a c hc, if_neg h, xor_half]
def tabN (j : Nat) : Nat := (tabAt j).toNat
theorem four (y : Nat) : stepN (stepN (stepN (stepN y))) = (y / 16) ^^^ tabN (y % 16) := by
  have e : y = y ^^^ 0 := by simp
  have e16 : y / 2 / 2 / 2 / 2 = y / 16 := by omega
  have key : ∃ c, stepN (stepN (stepN (stepN (y ^^^ 0)))) = (y / 2 / 2 / 2 / 2) ^^^ c ∧ c = tabN (y % 16) := by
    by_cases b0 : y % 2 = 1 <;> by_cases b1 : y / 2 % 2 = 1 <;> by_cases b2 : y / 2 / 2 % 2 = 1 <;> by_cases b3 : y / 2 / 2 / 2 % 2 = 1
    all_goals
      first | rw [stepN_1 y _ (by decide) b0] | rw [stepN_0 y _ (by decide) b0]
      first | rw [stepN_1 (y / 2) _ (by decide) b1] | rw [stepN_0 (y / 2) _ (by decide) b1]
      first | rw [stepN_1 (y / 2 / 2) _ (by decide) b2] | rw [stepN_0 (y / 2 / 2) _ (by decide) b2]
      first | rw [stepN_1 (y / 2 / 2 / 2) _ (by decide) b3] | rw [stepN_0 (y / 2 / 2 / 2) _ (by decide) b3]
      refine ⟨_, rfl, ?_⟩
    all_goals
      first
        | (rw [show y % 16 = 0 by omega]; decide) | (rw [show y % 16 = 1 by omega]; decide) | (rw [show y % 16 = 2 by omega]; decide) | (rw [show y % 16 = 3 by omega]; decide)
        | (rw [show y % 16 = 4 by omega]; decide) | (rw [show y % 16 = 5 by omega]; decide) | (rw [show y % 16 = 6 by omega]; decide) | (rw [show y % 16 = 7 by omega]; decide)
        | (rw [show y % 16 = 8 by omega]; decide) | (rw [show y % 16 = 9 by omega]; decide) | (rw [show y % 16 = 10 by omega]; decide) | (rw [show y % 16 = 11 by omega]; decide)
        | (rw [show y % 16 = 12 by omega]; decide) | (rw [show y % 16 = 13 by omega]; decide) | (rw [show y % 16 = 14 by omega]; decide) | (rw [show y % 16 = 15 by omega]; decide)
  obtain ⟨c, h1, h2⟩ := key
  rw [← e, e16, h2] at h1
  exact h1
theorem wrapu32 (z : Nat) (h1 : z < 4294967296) : IntKind.wrap .u32 (z : Int) = z := by
  unfold IntKind.wrap
  simp [IntKind.bits, IntKind.signed]
  omega
theorem xor64 (a b : Nat) (ha : a < 4294967296) (hb : b < 4294967296) : bits BinOp.xor IntKind.u64 (a : Int) (b : Int) = ((a ^^^ b : Nat) : Int) ∧ a ^^^ b < 4294967296 := by
  have hx : a ^^^ b < 4294967296 := Nat.xor_lt_two_pow (n := 32) ha hb
  refine ⟨?_, hx⟩
  have e : bits BinOp.xor IntKind.u64 (a : Int) (b : Int) = IntKind.wrap .u64 ((BitVec.ofInt 64 (a : Int) ^^^ BitVec.ofInt 64 (b : Int)).toNat : Int) := rfl
  rw [e, BitVec.toNat_xor, BitVec.toNat_ofInt, BitVec.toNat_ofInt, show ((a : Int) % ((2 : Nat) ^ 64 : Nat)).toNat = a by omega, show ((b : Int) % ((2 : Nat) ^ 64 : Nat)).toNat = b by omega]
  exact wrapu _ (by omega) (by omega)
theorem xor32 (a b : Nat) (ha : a < 4294967296) (hb : b < 4294967296) : bits BinOp.xor IntKind.u32 (a : Int) (b : Int) = ((a ^^^ b : Nat) : Int) := by
  have hx : a ^^^ b < 4294967296 := Nat.xor_lt_two_pow (n := 32) ha hb
  have e : bits BinOp.xor IntKind.u32 (a : Int) (b : Int) = IntKind.wrap .u32 ((BitVec.ofInt 32 (a : Int) ^^^ BitVec.ofInt 32 (b : Int)).toNat : Int) := rfl
  rw [e, BitVec.toNat_xor, BitVec.toNat_ofInt, BitVec.toNat_ofInt, show ((a : Int) % ((2 : Nat) ^ 32 : Nat)).toNat = a by omega, show ((b : Int) % ((2 : Nat) ^ 32 : Nat)).toNat = b by omega]
  exact wrapu32 _ hx
theorem and1 (u : Nat) (h : u < 4294967296) : bits BinOp.and IntKind.u64 (u : Int) 1 = ((u % 2 : Nat) : Int) := by
  have e : bits BinOp.and IntKind.u64 (u : Int) 1 = IntKind.wrap .u64 ((BitVec.ofInt 64 (u : Int) &&& BitVec.ofInt 64 1).toNat : Int) := rfl
  rw [e, BitVec.toNat_and, BitVec.toNat_ofInt, show ((u : Int) % ((2 : Nat) ^ 64 : Nat)).toNat = u by omega, show (BitVec.ofInt 64 1).toNat = 2 ^ 1 - 1 by decide, Nat.and_two_pow_sub_one_eq_mod]
  exact wrapu _ (by omega) (by omega)
theorem nib_nat (u : Nat) (h : u < 4294967296) : nib (u : Int) = ((u % 16 : Nat) : Int) := by
  have e : nib (u : Int) = IntKind.wrap .u32 ((BitVec.ofInt 32 (u : Int) &&& BitVec.ofInt 32 15).toNat : Int) := rfl
  rw [e, BitVec.toNat_and, BitVec.toNat_ofInt, show ((u : Int) % ((2 : Nat) ^ 32 : Nat)).toNat = u by omega, show (BitVec.ofInt 32 15).toNat = 2 ^ 4 - 1 by decide, Nat.and_two_pow_sub_one_eq_mod]
  exact wrapu32 _ (by omega)
theorem stepR_nat (u : Nat) (h : u < 4294967296) : stepR (u : Int) = (stepN u : Nat) ∧ stepN u < 4294967296 := by
  unfold stepR stepN
  rw [and1 u h]
  by_cases hp : u % 2 = 1
  · rw [if_pos (by omega), if_pos hp]
    have := xor64 (u / 2) 3988292384 (by omega) (by omega)
    exact ⟨by rw [← this.1]; rfl, this.2⟩
  · rw [if_neg (by omega), if_neg hp]
    exact ⟨by omega, by omega⟩
theorem tab_nat : ∀ j < 16, tabAt (j : Nat) = (tabN j : Nat) ∧ tabN j < 4294967296 := by decide
theorem xup_nat (y : Nat) (h : y < 4294967296) : xup (y : Int) = (stepN (stepN (stepN (stepN y))) : Nat) := by
  rw [four]
  unfold xup
  have ht := tab_nat (y % 16) (by omega)
  rw [nib_nat y h, ht.1, show ((y : Int) / 16) = ((y / 16 : Nat) : Int) by omega, xor32 _ _ (by omega) ht.2]
theorem stepsR_nat : ∀ (k : Nat) (u : Nat), u < 4294967296 → ∃ v : Nat, stepsR (u : Int) k = v ∧ v < 4294967296 ∧ v = Nat.repeat stepN k u
  | 0, u, h => ⟨u, rfl, h, rfl⟩
  | k + 1, u, h => by
    obtain ⟨v, h1, h2, h3⟩ := stepsR_nat k u h
    have := stepR_nat v h2
    exact ⟨stepN v, by rw [stepsR, h1, this.1], this.2, by rw [h3]; rfl⟩
theorem step_same (z : Nat) (c : UInt8) (h : z < 4294967296) : ∃ v : Nat, stepS (z : Int) c = v ∧ rstep (z : Int) c = v ∧ v < 4294967296 := by
  have hc := c.toNat_lt
  have hx := xor64 z c.toNat h (by omega)
  have hx2 := xor32 z c.toNat h (by omega)
  have e1 : rin (z : Int) c = ((z ^^^ c.toNat : Nat) : Int) := by unfold rin; rw [wrapu _ (by omega) (by omega), hx.1]
  have e2 : xin (z : Int) c = ((z ^^^ c.toNat : Nat) : Int) := by unfold xin; rw [show (c.toNat : Int) % 4294967296 = c.toNat by omega, hx2]
  obtain ⟨v, h1, h2, h3⟩ := stepsR_nat 8 _ hx.2
  obtain ⟨v4, g1, g2, g3⟩ := stepsR_nat 4 _ hx.2
  refine ⟨v, ?_, by unfold rstep; rw [e1, h1], h2⟩
  unfold stepS
  have g3' : stepN (stepN (stepN (stepN (z ^^^ c.toNat)))) = v4 := g3.symm
  rw [e2, xup_nat _ hx.2, g3', xup_nat _ g2, ← g3']
  congr 1
  exact h3.symm
theorem sum_same (l : List UInt8) : ∀ z : Nat, z < 4294967296 → ∃ v : Nat, l.foldl stepS (z : Int) = v ∧ l.foldl rstep (z : Int) = v ∧ v < 4294967296 := by
  induction l with
  | nil => intro z h; exact ⟨z, rfl, rfl, h⟩
  | cons c l ih =>
    intro z h
    obtain ⟨v, h1, h2, h3⟩ := step_same z c h
    simp only [List.foldl_cons]
    rw [h1, h2]
    exact ih v h3
theorem sumP_same (s : ByteArray) : rsumP s = sumP s := by
  obtain ⟨v, h1, h2, h3⟩ := sum_same s.data.toList 4294967295 (by omega)
  unfold rsumP sumP rsumL sumL
  rw [show ((4294967295 : Nat) : Int) = 4294967295 from rfl] at h1 h2
  rw [h1, h2]
  have a := (xor64 v 4294967295 h3 (by omega)).1
  have b := xor32 4294967295 v (by omega) h3
  rw [Nat.xor_comm] at b
  rw [show IntKind.u32.max = ((4294967295 : Nat) : Int) by rfl, b]
  exact congrArg wrap64 a
end Go.Proofs.YtlfgfjljddjncaaDoor
