/- Plain arithmetic on the integers from -10^15 to 10^15. -/
import Derived.Test.YtlkeghfdpbfhbaaValueA
import Derived.Lib.Hide
namespace Go.Proofs.Ytlkeghfdpbfhbaa
set_option linter.unusedVariables false

theorem inN_iff (n : Int) : inN n = true ↔ -1000000000000000 ≤ n ∧ n ≤ 1000000000000000 := by simp [inN]
theorem inN_not (n : Int) : inN n = false ↔ n < -1000000000000000 ∨ 1000000000000000 < n := by
  rw [← Bool.not_eq_true, inN_iff]; omega
def bdP (n : Int) : Int × Bool := if inN n then (n, true) else (0, false)
def both (a b : Int) : Bool := inN a && inN b
theorem both_iff (a b : Int) : both a b = true ↔ inN a = true ∧ inN b = true := by simp [both]
theorem both_not {a b : Int} (h : both a b = false) : inN a = false ∨ (inN a = true ∧ inN b = false) := by
  unfold both at h
  cases ha : inN a <;> cases hb : inN b <;> simp [ha, hb] at h ⊢
def addP (a b : Int) : Int × Bool := if both a b then bdP (a + b) else (0, false)
def subP (a b : Int) : Int × Bool := if both a b then bdP (a - b) else (0, false)
def mulP (a b : Int) : Int × Bool := if both a b then bdP (a * b) else (0, false)
def divP (a b : Int) : Int × Bool := if both a b && !(b == 0) then (a.tdiv b, true) else (0, false)
def modP (a b : Int) : Int × Bool := if both a b && !(b == 0) then (a.tmod b, true) else (0, false)
def negP (a : Int) : Int × Bool := if inN a then (-a, true) else (0, false)
def sizeI (n : Int) : Int := if n < 0 then -n else n
theorem sizeI_abs (n : Int) : sizeI n = n.natAbs := by unfold sizeI; split <;> omega
theorem sizeI_bd {n : Int} (h : inN n = true) : 0 ≤ sizeI n ∧ sizeI n ≤ 1000000000000000 := by
  have := (inN_iff n).1 h; unfold sizeI; split <;> omega
/-- The product lies within the bounds, or it does not: asked by a division. -/
theorem mul_in {a b : Int} (h0 : ¬ a = 0) (h : ¬ 1000000000000000 / sizeI a < sizeI b) : inN (a * b) = true := by
  rw [inN_iff]
  rw [sizeI_abs, sizeI_abs] at h
  have hp : (0 : Int) < a.natAbs := by omega
  have := Int.mul_le_of_le_ediv hp (Int.not_lt.1 h)
  have e : ((a * b).natAbs : Int) = a.natAbs * b.natAbs := by rw [Int.natAbs_mul]; simp
  rw [Int.mul_comm, ← e] at this
  omega
theorem mul_out {a b : Int} (h0 : ¬ a = 0) (h : 1000000000000000 / sizeI a < sizeI b) : inN (a * b) = false := by
  rw [inN_not]
  rw [sizeI_abs, sizeI_abs] at h
  have hp : (0 : Int) < a.natAbs := by omega
  have := Int.lt_mul_of_ediv_lt hp h
  have e : ((a * b).natAbs : Int) = a.natAbs * b.natAbs := by rw [Int.natAbs_mul]; simp
  rw [Int.mul_comm, ← e] at this
  omega
theorem bdP_in {n : Int} (h : inN n = true) : bdP n = (n, true) := by unfold bdP; rw [h]; rfl
theorem bdP_out {n : Int} (h : inN n = false) : bdP n = (0, false) := by unfold bdP; rw [h]; rfl
/-- Division towards 0, by what the numbers are without their signs. -/
theorem tdiv_size (a b : Int) : a.tdiv b = if (decide (a < 0)) != (decide (b < 0)) then -(sizeI a / sizeI b) else sizeI a / sizeI b := by
  unfold sizeI
  by_cases ha : a < 0 <;> by_cases hb : b < 0 <;> simp only [ha, hb, decide_true, decide_false, if_true, if_false, bne_self_eq_false, Bool.false_eq_true]
  · rw [← Int.tdiv_eq_ediv_of_nonneg (by omega)]; simp
  · rw [← Int.tdiv_eq_ediv_of_nonneg (by omega)]; simp
  · rw [← Int.tdiv_eq_ediv_of_nonneg (by omega)]; simp
  · rw [Int.tdiv_eq_ediv_of_nonneg (by omega)]
theorem tmod_size (a b : Int) : a.tmod b = if a < 0 then -(sizeI a % sizeI b) else sizeI a % sizeI b := by
  unfold sizeI
  by_cases ha : a < 0 <;> by_cases hb : b < 0 <;> simp only [ha, hb, if_true, if_false]
  · rw [← Int.tmod_eq_emod_of_nonneg (by omega)]; simp
  · rw [← Int.tmod_eq_emod_of_nonneg (by omega)]; simp
  · rw [← Int.tmod_eq_emod_of_nonneg (by omega)]; simp
  · rw [Int.tmod_eq_emod_of_nonneg (by omega)]
theorem div_bd {a b : Int} (ha : inN a = true) (hb : inN b = true) (h0 : ¬ b = 0) : -1000000000000000 ≤ a.tdiv b ∧ a.tdiv b ≤ 1000000000000000 := by
  have h1 := (inN_iff a).1 ha
  have hs : (a.tdiv b).natAbs = a.natAbs / b.natAbs := Int.natAbs_tdiv a b
  have hle : a.natAbs / b.natAbs ≤ a.natAbs := Nat.div_le_self _ _
  omega
theorem mod_bd {a b : Int} (ha : inN a = true) (hb : inN b = true) (h0 : ¬ b = 0) : -1000000000000000 ≤ a.tmod b ∧ a.tmod b ≤ 1000000000000000 := by
  have h1 := (inN_iff a).1 ha
  have hm : (a.tmod b).natAbs = a.natAbs % b.natAbs := Int.natAbs_tmod a b
  have hle : a.natAbs % b.natAbs ≤ a.natAbs := Nat.mod_le _ _
  omega
theorem size_div_bd {a b : Int} (ha : inN a = true) (hb : inN b = true) (h0 : ¬ b = 0) : 0 ≤ sizeI a / sizeI b ∧ sizeI a / sizeI b ≤ 1000000000000000 := by
  have h1 := (inN_iff a).1 ha
  rw [sizeI_abs, sizeI_abs]
  have e : ((a.natAbs : Int) / (b.natAbs : Int)) = ((a.natAbs / b.natAbs : Nat) : Int) := by simp
  have hle : a.natAbs / b.natAbs ≤ a.natAbs := Nat.div_le_self _ _
  rw [e]
  generalize a.natAbs / b.natAbs = q at *
  omega
theorem size_mod_bd {a b : Int} (ha : inN a = true) (hb : inN b = true) (h0 : ¬ b = 0) : 0 ≤ sizeI a % sizeI b ∧ sizeI a % sizeI b ≤ 1000000000000000 := by
  have h1 := (inN_iff a).1 ha
  rw [sizeI_abs, sizeI_abs]
  have e : ((a.natAbs : Int) % (b.natAbs : Int)) = ((a.natAbs % b.natAbs : Nat) : Int) := by simp
  have hle : a.natAbs % b.natAbs ≤ a.natAbs := Nat.mod_le _ _
  rw [e]
  generalize a.natAbs % b.natAbs = q at *
  omega
/-- quotient times divisor plus remainder is the dividend -/
theorem div_back {a b : Int} (ha : inN a = true) (hb : inN b = true) (h0 : ¬ b = 0) : mulP (a.tdiv b) b = (a.tdiv b * b, true) ∧ addP (a.tdiv b * b) (a.tmod b) = (a, true) ∧ (a.tmod b = 0 ∨ (a.tmod b < 0 ↔ a < 0)) ∧ ((b < 0 ∧ b < a.tmod b ∧ a.tmod b < -b) ∨ (0 < b ∧ a.tmod b < b ∧ -b < a.tmod b)) := by
  have h1 := (inN_iff a).1 ha
  have h2 := (inN_iff b).1 hb
  have hs : (a.tdiv b).natAbs = a.natAbs / b.natAbs := Int.natAbs_tdiv a b
  have hm : (a.tmod b).natAbs = a.natAbs % b.natAbs := Int.natAbs_tmod a b
  have hlt : a.natAbs % b.natAbs < b.natAbs := Nat.mod_lt _ (by omega)
  have hle : a.natAbs / b.natAbs ≤ a.natAbs := Nat.div_le_self _ _
  have hle2 : a.natAbs / b.natAbs * b.natAbs ≤ a.natAbs := Nat.div_mul_le_self _ _
  have hp : (a.tdiv b * b).natAbs = a.natAbs / b.natAbs * b.natAbs := by rw [Int.natAbs_mul, hs]
  have hadd := Int.tdiv_mul_add_tmod a b
  have hsg : a.tmod b = 0 ∨ (a.tmod b < 0 ↔ a < 0) := by
    rcases Int.lt_or_le a 0 with h | h
    · have := Int.tmod_nonneg b (show 0 ≤ -a by omega)
      rw [Int.neg_tmod] at this
      omega
    · have := Int.tmod_nonneg b h
      omega
  have i1 : inN (a.tdiv b) = true := by rw [inN_iff]; omega
  have i2 : inN (a.tdiv b * b) = true := by rw [inN_iff]; omega
  have i3 : inN (a.tmod b) = true := by rw [inN_iff]; omega
  refine ⟨?_, ?_, hsg, by omega⟩
  · unfold mulP; rw [(both_iff _ _).2 ⟨i1, hb⟩]; simp only [if_true]; exact bdP_in i2
  · unfold addP; rw [(both_iff _ _).2 ⟨i2, i3⟩, hadd]; simp only [if_true]; exact bdP_in ha
end Go.Proofs.Ytlkeghfdpbfhbaa
