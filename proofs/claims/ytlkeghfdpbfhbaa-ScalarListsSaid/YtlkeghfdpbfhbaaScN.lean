/- The mathematics of ScalarLists. No walk. -/
import Derived.Test.YtlkeghfdpbfhbaaScM
namespace Go.Proofs.Ytlkeghfdpbfhbaa
set_option linter.unusedVariables false

def orF (a : ValV) (o : Int) (b : ValV) : Int := orI o (frV (cmpOpV 11 a b))
theorem inI_eq (a : ValV) (l : List ValV) : inI a l = l.foldl (orF a) 0 := rfl
theorem fr_cmp (op : Int) (a b : ValV) : 0 ≤ frV (cmpOpV op a b) ∧ frV (cmpOpV op a b) ≤ 2 := by
  unfold cmpOpV
  cases (compV a b).2 with
  | false => rw [if_neg (by decide), from_null]; omega
  | true =>
    rw [if_pos rfl, from_bool]
    split <;> omega
theorem or_max {a b : Int} (ha : 0 ≤ a ∧ a ≤ 2) (hb : 0 ≤ b ∧ b ≤ 2) : orI a b = max a b := by
  obtain ⟨a1, a2⟩ := ha
  obtain ⟨b1, b2⟩ := hb
  have h1 : a = 0 ∨ a = 1 ∨ a = 2 := by omega
  have h2 : b = 0 ∨ b = 1 ∨ b = 2 := by omega
  rcases h1 with rfl | rfl | rfl <;> rcases h2 with rfl | rfl | rfl <;> rfl
theorem fold_bd (a : ValV) : ∀ (l : List ValV) (o : Int), 0 ≤ o → o ≤ 2 → 0 ≤ l.foldl (orF a) o ∧ l.foldl (orF a) o ≤ 2
  | [], o, h1, h2 => ⟨h1, h2⟩
  | b :: l, o, h1, h2 => by
    have hb := fr_cmp 11 a b
    have e := or_max ⟨h1, h2⟩ hb
    rw [List.foldl_cons]
    have e2 : orF a o b = max o (frV (cmpOpV 11 a b)) := e
    rw [e2]
    exact fold_bd a l _ (by omega) (by omega)
theorem fold_max (a : ValV) : ∀ (l : List ValV) (o p : Int), 0 ≤ o → o ≤ 2 → 0 ≤ p → p ≤ 2 → l.foldl (orF a) (max o p) = max (l.foldl (orF a) o) p
  | [], o, p, _, _, _, _ => rfl
  | b :: l, o, p, h1, h2, h3, h4 => by
    have hb := fr_cmp 11 a b
    rw [List.foldl_cons, List.foldl_cons, show orF a (max o p) b = max (max o p) (frV (cmpOpV 11 a b)) from or_max (by omega) hb, show orF a o b = max o (frV (cmpOpV 11 a b)) from or_max ⟨h1, h2⟩ hb,
      show max (max o p) (frV (cmpOpV 11 a b)) = max (max o (frV (cmpOpV 11 a b))) p by omega]
    exact fold_max a l _ _ (by omega) (by omega) h3 h4
/-- The order of the list is no matter. -/
theorem in_reverse (a : ValV) : ∀ (l : List ValV), inI a l.reverse = inI a l
  | [] => rfl
  | b :: l => by
    have hb := fr_cmp 11 a b
    have ih := in_reverse a l
    rw [inI_eq] at ih ⊢
    rw [inI_eq] at ih ⊢
    rw [List.reverse_cons, List.foldl_append, ih, List.foldl_cons, List.foldl_nil, List.foldl_cons]
    have h0 := fold_bd a l 0 (by omega) (by omega)
    rw [show orF a 0 b = max 0 (frV (cmpOpV 11 a b)) from or_max (by omega) hb, fold_max a l 0 _ (by omega) (by omega) hb.1 hb.2]
    exact or_max h0 hb
theorem inV_reverse (a : ValV) (l : List ValV) : inV a l.reverse = inV a l := by
  unfold inV
  rw [in_reverse]
/-- What or has come to after some of the list. -/
def orTo (a : ValV) (l : List ValV) : ValV := trV (inI a l)
theorem orTo_nil (a : ValV) : orTo a [] = boolV false := rfl
theorem orTo_snoc (a b : ValV) (l : List ValV) : binV 18 (orTo a l) (cmpOpV 11 a b) = orTo a (l ++ [b]) := by
  have h0 := fold_bd a l 0 (by omega) (by omega)
  have hb := fr_cmp 11 a b
  have e : inI a (l ++ [b]) = orI (inI a l) (frV (cmpOpV 11 a b)) := by
    rw [inI_eq, inI_eq, List.foldl_append]
    rfl
  have e2 : binV 18 (orTo a l) (cmpOpV 11 a b) = trV (orI (frV (orTo a l)) (frV (cmpOpV 11 a b))) := by
    unfold binV
    rw [if_neg (by decide), if_pos rfl]
  rw [e2]
  unfold orTo
  rw [e, from_tr, sure_of2 (by rw [inI_eq]; exact h0.1) (by rw [inI_eq]; exact h0.2)]
/-- The whens of a list: not of is-null, and the value. -/
def whens : List ValV → List ValV
  | [] => []
  | b :: l => unV 4 (unV 19 b) :: b :: whens l
theorem whens_snoc : ∀ (l : List ValV) (b : ValV), whens (l ++ [b]) = whens l ++ [unV 4 (unV 19 b), b]
  | [], b => rfl
  | c :: l, b => by
    rw [List.cons_append, whens, whens, whens_snoc l b]
    rfl
theorem whens_len : ∀ (l : List ValV), (whens l).length = 2 * l.length
  | [] => rfl
  | c :: l => by
    have := whens_len l
    simp only [whens, List.length_cons] at *
    omega
theorem choose_whens : ∀ (l : List ValV), chooseV (whens l) = coalV l
  | [] => rfl
  | b :: l => by
    have e : unV 4 (unV 19 b) = boolV (!(b.kind == 0)) := by
      have h1 : unV 19 b = boolV (b.kind == 0) := by unfold unV; rw [if_pos rfl]
      rw [h1, not_bool]
    rw [whens, chooseV, coalV, e, from_bool, choose_whens l]
    by_cases h : b.kind = 0
    · rw [if_pos h]
      simp [h]
    · rw [if_neg h]
      simp [h]
theorem choose_last (v w : ValV) : chooseV [boolV false, v, nullV, v, w] = w := rfl
end Go.Proofs.Ytlkeghfdpbfhbaa
