/- Kinds of values, and how they join: plain functions. -/
import Derived.Lib.Hide
namespace Go.Proofs.Ytiaolpeenbmidaa
set_option linter.unusedVariables false

def isK (k : Int) : Bool := decide (0 ≤ k) && decide (k ≤ 3)
def joinB (a b : Int) : Bool := isK a && isK b && (decide (a = b) || decide (a = 0) || decide (b = 0))
def joinV (a b : Int) : Int := if joinB a b then (if a < b then b else a) else 0
theorem isK_iff (k : Int) : isK k = true ↔ 0 ≤ k ∧ k ≤ 3 := by simp [isK]
theorem joinB_iff (a b : Int) : joinB a b = true ↔ (0 ≤ a ∧ a ≤ 3) ∧ (0 ≤ b ∧ b ≤ 3) ∧ (a = b ∨ a = 0 ∨ b = 0) := by
  unfold joinB; simp only [Bool.and_eq_true, isK_iff, Bool.or_eq_true, decide_eq_true_eq]; omega
theorem joinB_comm (a b : Int) : joinB a b = joinB b a := by rw [Bool.eq_iff_iff, joinB_iff, joinB_iff]; omega
theorem joinV_comm (a b : Int) : joinV a b = joinV b a := by
  unfold joinV; rw [joinB_comm b a]; split
  · split <;> split <;> omega
  · rfl
theorem joinV_of {a b : Int} (h : joinB a b = true) : (a = 0 → joinV a b = b) ∧ (¬ a = 0 → joinV a b = a) := by
  have := (joinB_iff a b).1 h
  unfold joinV; rw [h]; simp only [if_true]
  constructor <;> intro <;> split <;> omega
theorem joinV_not {a b : Int} (h : joinB a b = false) : joinV a b = 0 := by unfold joinV; rw [h]; rfl
theorem joinV_bd (a b : Int) : 0 ≤ joinV a b ∧ joinV a b ≤ 3 := by
  unfold joinV; split
  · rename_i h; have := (joinB_iff a b).1 h; split <;> omega
  · omega

def fitsL (k : Int) (zs : List Int) : Bool := zs.all fun z => joinB k z
def jstep (s : Int × Bool) (k : Int) : Int × Bool := if s.2 then (joinV s.1 k, joinB s.1 k) else (0, false)
def joinAll (zs : List Int) : Int × Bool := zs.foldl jstep (0, true)
def resI (k : Int) (ok : Bool) : Int × Int := if ok then (k, 0) else (0, 9)
theorem jfold_false : ∀ (l : List Int) (v : Int), (l.foldl jstep (v, false)).2 = false := by
  intro l
  induction l with
  | nil => intro v; rfl
  | cons x l ih => intro v; exact ih _
theorem jfold_zero : ∀ (l : List Int), l.foldl jstep (0, false) = (0, false) := by
  intro l
  induction l with
  | nil => rfl
  | cons x l ih => exact ih
theorem joinAll_snoc (zs : List Int) (z : Int) : joinAll (zs ++ [z]) = jstep (joinAll zs) z := by simp [joinAll]
theorem joinAll_stop {zs : List Int} {k : Nat} {z : Int} (h : zs.take (k + 1) = zs.take k ++ [z]) (hk : (joinAll (zs.take k)).2 = true) (hj : joinB (joinAll (zs.take k)).1 z = false) : joinAll zs = (0, false) := by
  have e : joinAll (zs.take (k + 1)) = (0, false) := by rw [h, joinAll_snoc]; unfold jstep; rw [hk, hj, joinV_not hj]; rfl
  have : joinAll zs = (zs.drop (k + 1)).foldl jstep (joinAll (zs.take (k + 1))) := by
    unfold joinAll; rw [← List.foldl_append, List.take_append_drop]
  rw [this, e, jfold_zero]
theorem joinAll_go {zs : List Int} {k : Nat} {z : Int} (h : zs.take (k + 1) = zs.take k ++ [z]) (hk : (joinAll (zs.take k)).2 = true) (hj : joinB (joinAll (zs.take k)).1 z = true) :
    joinV (joinAll (zs.take k)).1 z = (joinAll (zs.take (k + 1))).1 ∧ (joinAll (zs.take (k + 1))).2 = true := by
  rw [h, joinAll_snoc]; unfold jstep; rw [hk]; exact ⟨rfl, hj⟩
theorem fitsL_stop {kk : Int} {zs : List Int} {k : Nat} {z : Int} (h : zs.take (k + 1) = zs.take k ++ [z]) (hj : joinB kk z = false) : fitsL kk zs = false := by
  unfold fitsL
  rw [← List.take_append_drop (k + 1) zs, h]
  simp [hj]
theorem fitsL_go {kk : Int} {zs : List Int} {k : Nat} {z : Int} (h : zs.take (k + 1) = zs.take k ++ [z]) (hk : fitsL kk (zs.take k) = true) (hj : joinB kk z = true) : fitsL kk (zs.take (k + 1)) = true := by
  rw [h]; unfold fitsL at *; simp_all

def condsOf : List Int → List Int
  | a :: _ :: r => a :: condsOf r
  | _ => []
def valsOf : List Int → List Int
  | _ :: b :: r => b :: valsOf r
  | l => l
def choiceI (zs : List Int) : Int × Int := if fitsL 1 (condsOf zs) then resI (joinAll (valsOf zs)).1 (joinAll (valsOf zs)).2 else (0, 9)
def lo (op : Int) : Int := if op = 3 ∨ op = 4 ∨ op = 19 then 1 else if op = 22 then 3 else if (5 ≤ op ∧ op ≤ 18) ∨ op = 20 ∨ op = 21 ∨ op = 23 then 2 else 0
def hi (op : Int) : Int := if op = 21 ∨ op = 23 then 9223372036854775807 else lo op
def bodyI (op : Int) (zs : List Int) : Int × Int :=
  if op = 3 ∨ (5 ≤ op ∧ op ≤ 9) then resI 2 (fitsL 2 zs)
  else if op = 4 ∨ op = 17 ∨ op = 18 then resI 1 (fitsL 1 zs)
  else if op = 10 then resI 3 (fitsL 3 zs)
  else if op = 20 then resI 1 (fitsL 3 zs)
  else if op = 19 then resI 1 (isK (zs.getD 0 0))
  else if op = 23 then choiceI zs
  else resI 1 (joinAll zs).2
def opI (op : Int) (zs : List Int) : Int × Int :=
  if lo op = 0 then (0, 1) else if (zs.length : Int) < lo op ∨ hi op < zs.length then (0, 11) else bodyI op zs
/-- what is still to come behind a condition -/
def condsO : List Int → List Int
  | [] => []
  | _ :: r => condsOf r
def valsO : List Int → List Int
  | [] => []
  | b :: r => b :: valsOf r
theorem condsOf2 (a b : Int) (r : List Int) : condsOf (a :: b :: r) = a :: condsO (b :: r) := by simp [condsOf, condsO]
theorem valsOf2 (a b : Int) (r : List Int) : valsOf (a :: b :: r) = valsO (b :: r) := by simp [valsOf, valsO]
theorem condsOf1 (a : Int) : condsOf [a] = [] := by simp [condsOf]
theorem valsOf1 (a : Int) : valsOf [a] = [a] := by simp [valsOf]
theorem short_of {rest : List Int} (h : rest.length < 2) : condsOf rest = [] ∧ valsOf rest = rest := by
  match rest, h with
  | [], _ => simp [condsOf, valsOf]
  | [a], _ => simp [condsOf, valsOf]
theorem two_of {rest : List Int} (h : 2 ≤ rest.length) : ∃ a b r, rest = a :: b :: r := by
  match rest, h with
  | a :: b :: r, _ => exact ⟨a, b, r, rfl⟩
theorem vals_len : ∀ zs : List Int, (valsOf zs).length ≤ zs.length
  | [] => by simp [valsOf]
  | [a] => by simp [valsOf]
  | a :: b :: r => by have := vals_len r; simp [valsOf]; omega
theorem fits_app (k : Int) (a b : List Int) : fitsL k (a ++ b) = (fitsL k a && fitsL k b) := by simp [fitsL]
theorem lo_range {op : Int} (h : ¬ lo op = 0) : 3 ≤ op ∧ op ≤ 23 := by
  unfold lo at h
  split at h
  · omega
  · split at h
    · omega
    · split at h
      · omega
      · omega
theorem lo_bd (op : Int) : 0 ≤ lo op ∧ lo op ≤ 3 := by unfold lo; repeat' split <;> omega
end Go.Proofs.Ytiaolpeenbmidaa
