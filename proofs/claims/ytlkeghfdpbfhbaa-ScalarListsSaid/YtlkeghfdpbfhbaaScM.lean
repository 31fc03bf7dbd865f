/- What operators make of values. No walk. -/
import Derived.Test.YtlkeghfdpbfhbaaLkJ
import Derived.Test.YtlkeghfdpbfhbaaMk
import Derived.Test.YtlkeghfdpbfhbaaTri
import Derived.Test.YtlkeghfdpbfhbaaNumB
namespace Go.Proofs.Ytlkeghfdpbfhbaa
set_option linter.unusedVariables false
open Go.ChangeShapes Go.WideShapes Go.ChangeAt Go.RowKit

def nullV : ValV := ⟨0, 0, .empty⟩
def boolV (b : Bool) : ValV := ⟨1, if b then 1 else 0, .empty⟩
def numV (n : Int) : ValV := ⟨2, n, .empty⟩
def strV (s : ByteArray) : ValV := ⟨3, 0, s⟩
def toldV (p : Int × Bool) : ValV := if p.2 then numV p.1 else nullV
def frV (v : ValV) : Int := fromI v.kind v.num
def trV (a : Int) : ValV := ⟨if sureI a = 1 then 0 else 1, if sureI a = 2 then 1 else 0, .empty⟩
theorem trV_val (a : Int) : valueV a = valAgg (trV a) := rfl
def opB (op c : Int) : Bool := if op = 11 then c == 0 else if op = 12 then c != 0 else if op = 13 then decide (c < 0) else if op = 14 then decide (c ≤ 0) else if op = 15 then decide (0 < c) else decide (0 ≤ c)
def cmpOpV (op : Int) (a b : ValV) : ValV := if (compV a b).2 then boolV (opB op (compV a b).1) else nullV
def unV (op : Int) (a : ValV) : ValV := if op = 19 then boolV (a.kind == 0) else if op = 4 then trV (notI (frV a)) else if a.kind = 2 then toldV (negP a.num) else nullV
def arP (op a b : Int) : Int × Bool := if op = 5 then addP a b else if op = 6 then subP a b else if op = 7 then mulP a b else if op = 8 then divP a b else modP a b
def txV (op : Int) (a b : ByteArray) : ValV := if op = 20 then boolV (matchB a b) else if 100 < a.size + b.size then nullV else strV (a ++ b)
def binV (op : Int) (a b : ValV) : ValV :=
  if op = 17 then trV (andI (frV a) (frV b)) else if op = 18 then trV (orI (frV a) (frV b)) else if 11 ≤ op ∧ op ≤ 16 then cmpOpV op a b
  else if op = 10 ∨ op = 20 then (if a.kind = 3 ∧ b.kind = 3 then txV op a.str b.str else nullV)
  else if a.kind = 2 ∧ b.kind = 2 then toldV (arP op a.num b.num) else nullV
def inI (a : ValV) (l : List ValV) : Int := l.foldl (fun o b => orI o (frV (cmpOpV 11 a b))) 0
def inV (a : ValV) (l : List ValV) : ValV := trV (inI a l)
def chooseV : List ValV → ValV
  | [] => nullV
  | [x] => x
  | a :: b :: l => if frV a = 2 then b else chooseV l
def coalV : List ValV → ValV
  | [] => nullV
  | x :: l => if x.kind = 0 then coalV l else x
theorem from_tr (a : Int) : frV (trV a) = sureI a := by
  have := sureI_bd a
  unfold frV trV fromI
  simp only
  by_cases h1 : sureI a = 1
  · rw [if_pos h1, if_neg (by omega)]; exact h1.symm
  · rw [if_neg h1, if_pos rfl]
    by_cases h2 : sureI a = 2
    · rw [if_pos h2, if_neg (by omega)]; exact h2.symm
    · rw [if_neg h2, if_pos rfl]; omega
theorem from_bool (b : Bool) : frV (boolV b) = if b then 2 else 0 := by cases b <;> rfl
theorem from_null : frV nullV = 1 := rfl
theorem tr_one : trV 1 = nullV := rfl
theorem tr_bool (b : Bool) : trV (if b then 2 else 0) = boolV b := by cases b <;> rfl
theorem not_null : unV 4 nullV = nullV := rfl
theorem not_bool (b : Bool) : unV 4 (boolV b) = boolV (!b) := by cases b <;> rfl
theorem comp_neg (a b : ValV) : compV b a = (-(compV a b).1, (compV a b).2) := by
  unfold compV
  by_cases h : a.kind = b.kind
  · rw [if_pos h, if_pos h.symm, ← h]
    by_cases h1 : a.kind = 1 ∨ a.kind = 2
    · rw [if_pos h1, if_pos h1, cmpI_neg]
    · rw [if_neg h1, if_neg h1]
      by_cases h2 : a.kind = 3
      · rw [if_pos h2, if_pos h2]
        unfold cmpT
        rw [cb_neg]
      · rw [if_neg h2, if_neg h2]; rfl
  · rw [if_neg h, if_neg (fun e => h e.symm)]; rfl
/-- A comparison's not is the opposite one. -/
theorem cmp_not (x y : Int) (h : (x = 11 ∧ y = 12) ∨ (x = 12 ∧ y = 11) ∨ (x = 13 ∧ y = 16) ∨ (x = 16 ∧ y = 13) ∨ (x = 15 ∧ y = 14) ∨ (x = 14 ∧ y = 15)) (a b : ValV) : unV 4 (cmpOpV x a b) = cmpOpV y a b := by
  unfold cmpOpV
  cases (compV a b).2 with
  | false => exact not_null
  | true =>
    simp only [if_true]
    rw [not_bool]
    congr 1
    generalize (compV a b).1 = c
    unfold opB
    rcases h with ⟨rfl, rfl⟩ | ⟨rfl, rfl⟩ | ⟨rfl, rfl⟩ | ⟨rfl, rfl⟩ | ⟨rfl, rfl⟩ | ⟨rfl, rfl⟩
    · rw [if_pos rfl, if_neg (by decide), if_pos rfl]; rfl
    · rw [if_neg (by decide), if_pos rfl, if_pos rfl, bne, Bool.not_not]
    · rw [if_neg (by decide), if_neg (by decide), if_pos rfl, if_neg (by decide), if_neg (by decide), if_neg (by decide), if_neg (by decide), if_neg (by decide), ← decide_not]; congr 1; rw [eq_iff_iff]; omega
    · rw [if_neg (by decide), if_neg (by decide), if_neg (by decide), if_neg (by decide), if_neg (by decide), if_neg (by decide), if_neg (by decide), if_pos rfl, ← decide_not]; congr 1; rw [eq_iff_iff]; omega
    · rw [if_neg (by decide), if_neg (by decide), if_neg (by decide), if_neg (by decide), if_pos rfl, if_neg (by decide), if_neg (by decide), if_neg (by decide), if_pos rfl, ← decide_not]; congr 1; rw [eq_iff_iff]; omega
    · rw [if_neg (by decide), if_neg (by decide), if_neg (by decide), if_pos rfl, if_neg (by decide), if_neg (by decide), if_neg (by decide), if_neg (by decide), if_pos rfl, ← decide_not]; congr 1; rw [eq_iff_iff]; omega
/-- A comparison from its other side. -/
theorem cmp_side (x y : Int) (h : (x = 11 ∧ y = 11) ∨ (x = 12 ∧ y = 12) ∨ (x = 13 ∧ y = 15) ∨ (x = 16 ∧ y = 14) ∨ (x = 15 ∧ y = 13) ∨ (x = 14 ∧ y = 16)) (a b : ValV) : cmpOpV x a b = cmpOpV y b a := by
  unfold cmpOpV
  rw [comp_neg a b]
  simp only
  cases (compV a b).2 with
  | false => rfl
  | true =>
    simp only [if_true]
    congr 1
    generalize (compV a b).1 = c
    unfold opB
    rcases h with ⟨rfl, rfl⟩ | ⟨rfl, rfl⟩ | ⟨rfl, rfl⟩ | ⟨rfl, rfl⟩ | ⟨rfl, rfl⟩ | ⟨rfl, rfl⟩
    · rw [if_pos rfl, if_pos rfl, Bool.eq_iff_iff, beq_iff_eq, beq_iff_eq]; omega
    · rw [if_neg (by decide), if_pos rfl, if_neg (by decide), if_pos rfl, Bool.eq_iff_iff, bne_iff_ne, bne_iff_ne]; omega
    all_goals
      simp only [show ((13 : Int) = 11) = False from by decide, show ((13 : Int) = 12) = False from by decide, show ((14 : Int) = 11) = False from by decide, show ((14 : Int) = 12) = False from by decide, show ((14 : Int) = 13) = False from by decide, show ((15 : Int) = 11) = False from by decide, show ((15 : Int) = 12) = False from by decide, show ((15 : Int) = 13) = False from by decide, show ((15 : Int) = 14) = False from by decide, show ((16 : Int) = 11) = False from by decide, show ((16 : Int) = 12) = False from by decide, show ((16 : Int) = 13) = False from by decide, show ((16 : Int) = 14) = False from by decide, show ((16 : Int) = 15) = False from by decide, if_true, if_false]
      rw [decide_eq_decide]
      omega
theorem sure_of2 {s : Int} (h : 0 ≤ s) (h2 : s ≤ 2) : sureI s = s := by unfold sureI; split <;> omega
theorem or_range (a b : Int) : 0 ≤ orI a b ∧ orI a b ≤ 2 := by have := sureI_bd a; have := sureI_bd b; unfold orI; split <;> omega
theorem and_range (a b : Int) : 0 ≤ andI a b ∧ andI a b ≤ 2 := by have := sureI_bd a; have := sureI_bd b; unfold andI; split <;> omega
theorem fr_range (v : ValV) : 0 ≤ frV v ∧ frV v ≤ 2 := by unfold frV fromI; split <;> (try split) <;> omega
theorem or_sure (a b : Int) : orI (sureI a) b = orI a b := by
  have h := sureI_bd a
  unfold orI
  rw [sure_of2 h.1 h.2]
theorem from_and (a b : ValV) : frV (trV (andI (frV a) (frV b))) = andI (frV a) (frV b) := by
  have := and_range (frV a) (frV b)
  rw [from_tr, sure_of2 this.1 this.2]
end Go.Proofs.Ytlkeghfdpbfhbaa
