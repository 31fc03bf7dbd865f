/- Mathematics of the order by keys: never both ways; with all columns there, one total order. Merging and sorting by halves. No walk. -/
import Derived.Test.YtahdkfenpflahaaSoA
import Derived.Test.YtahdkfenpflahaaSoL2
namespace Go.Proofs.Ytahdkfenpflahaa
set_option linter.unusedVariables false
open Go.ChangeShapes Go.WideShapes Go.ChangeAt Go.RowKit

theorem cmpV_self (a : ValV) : cmpV a a = 0 := cmpV_zero.2 rfl
theorem befB_irrefl (r : List ValV) : ∀ ks, befB r r ks = false
  | [] => by
    unfold befB
    rw [cmpR_refl]
    rfl
  | k :: ks => by
    rw [befB, cmpV_self, if_pos rfl]
    split <;> exact befB_irrefl r ks
theorem befB_asymm (r s : List ValV) : ∀ ks, befB r s ks = true → befB s r ks = false
  | [] => by
    unfold befB
    intro h
    have h1 := of_decide_eq_true h
    have := cmpR_neg r s
    exact decide_eq_false (by omega)
  | k :: ks => by
    rw [befB, befB]
    have hn := cmpV_neg (r.getD k.1.toNat valD) (s.getD k.1.toNat valD)
    generalize cmpV (r.getD k.1.toNat valD) (s.getD k.1.toNat valD) = x at *
    rw [hn]
    by_cases h : k.1 < 0 ∨ (r.length : Int) ≤ k.1 ∨ (s.length : Int) ≤ k.1
    · rw [if_pos h, if_pos (show k.1 < 0 ∨ (s.length : Int) ≤ k.1 ∨ (r.length : Int) ≤ k.1 by omega)]
      exact befB_asymm r s ks
    · rw [if_neg h, if_neg (show ¬ (k.1 < 0 ∨ (s.length : Int) ≤ k.1 ∨ (r.length : Int) ≤ k.1) by omega)]
      by_cases hx : x = 0
      · rw [if_pos hx, if_pos (show -x = 0 by omega)]
        exact befB_asymm r s ks
      · rw [if_neg hx, if_neg (show ¬ -x = 0 by omega)]
        by_cases h1 : x < 0
        · rw [decide_eq_true h1, decide_eq_false (by omega)]
          cases k.2 <;> simp
        · rw [decide_eq_false h1, decide_eq_true (by omega)]
          cases k.2 <;> simp
/-- Has a row all columns of the keys? -/
def AllK (ks : List (Int × Bool)) (r : List ValV) : Prop := ∀ k ∈ ks, 0 ≤ k.1 ∧ k.1 < r.length
/-- Keys as a comparison: -1, 0, 1. -/
def cmpK (r s : List ValV) : List (Int × Bool) → Int
  | [] => cmpR r s
  | k :: ks => if cmpV (r.getD k.1.toNat valD) (s.getD k.1.toNat valD) = 0 then cmpK r s ks else if k.2 then -cmpV (r.getD k.1.toNat valD) (s.getD k.1.toNat valD) else cmpV (r.getD k.1.toNat valD) (s.getD k.1.toNat valD)
theorem befB_cmp {r s : List ValV} : ∀ {ks}, AllK ks r → AllK ks s → befB r s ks = decide (cmpK r s ks < 0)
  | [], _, _ => rfl
  | k :: ks, hr, hs => by
    have h1 := hr k (by simp)
    have h2 := hs k (by simp)
    rw [befB, cmpK, if_neg (by omega), befB_cmp (fun x hx => hr x (by simp [hx])) (fun x hx => hs x (by simp [hx]))]
    generalize cmpV (r.getD k.1.toNat valD) (s.getD k.1.toNat valD) = x at *
    by_cases hx : x = 0
    · rw [if_pos hx, if_pos hx]
    · rw [if_neg hx, if_neg hx]
      cases k.2
      · simp
      · by_cases h : x < 0
        · rw [decide_eq_true h, if_pos rfl, decide_eq_false (by omega)]; rfl
        · rw [decide_eq_false h, if_pos rfl, decide_eq_true (by omega)]; rfl
theorem cmpK_neg (r s : List ValV) : ∀ ks, cmpK s r ks = -cmpK r s ks
  | [] => cmpR_neg r s
  | k :: ks => by
    rw [cmpK, cmpK, cmpV_neg (r.getD k.1.toNat valD) (s.getD k.1.toNat valD)]
    generalize cmpV (r.getD k.1.toNat valD) (s.getD k.1.toNat valD) = x
    by_cases hx : x = 0
    · rw [if_pos (by omega), if_pos hx]; exact cmpK_neg r s ks
    · rw [if_neg (by omega), if_neg hx]
      cases k.2 <;> simp
theorem cmpK_zero {r s : List ValV} : ∀ {ks}, cmpK r s ks = 0 ↔ r = s
  | [] => cmpR_zero
  | k :: ks => by
    rw [cmpK]
    by_cases hx : cmpV (r.getD k.1.toNat valD) (s.getD k.1.toNat valD) = 0
    · rw [if_pos hx]; exact cmpK_zero
    · rw [if_neg hx]
      constructor
      · intro h
        exfalso
        cases hk : k.2 with
        | false => rw [hk, if_neg (by simp)] at h; exact hx h
        | true => rw [hk, if_pos rfl] at h; omega
      · rintro rfl
        exact absurd (cmpV_self _) hx
theorem cmpK_trans (r s t : List ValV) : ∀ ks, cmpK r s ks ≤ 0 → cmpK s t ks ≤ 0 → cmpK r t ks ≤ 0
  | [] => cmpR_trans r s t
  | k :: ks => by
    rw [cmpK, cmpK, cmpK]
    have ih := cmpK_trans r s t ks
    generalize r.getD k.1.toNat valD = a at *
    generalize s.getD k.1.toNat valD = b at *
    generalize t.getD k.1.toNat valD = c at *
    have t1 := cmpV_trans a b c
    have t2 := cmpV_level a b c
    have t3 := cmpV_trans c b a
    have t4 := cmpV_level c b a
    have n1 := cmpV_neg a b
    have n2 := cmpV_neg b c
    have n3 := cmpV_neg a c
    have z1 : cmpV a b = 0 → cmpV b c = 0 → cmpV a c = 0 := fun h g => by rw [cmpV_zero] at *; exact h.trans g
    have z2 : cmpV a b = 0 → cmpV a c = cmpV b c := fun h => by rw [cmpV_zero] at h; rw [h]
    have z3 : cmpV b c = 0 → cmpV a c = cmpV a b := fun h => by rw [cmpV_zero] at h; rw [h]
    generalize cmpV a b = x at *
    generalize cmpV b c = y at *
    generalize cmpV a c = z at *
    rw [n1, n2] at t3 t4
    rw [n3] at t3 t4
    by_cases hx : x = 0
    · have e := z2 hx
      by_cases hy : y = 0
      · rw [if_pos hx, if_pos hy, if_pos (z1 hx hy)]
        exact ih
      · rw [if_pos hx, if_neg hy, if_neg (show ¬ z = 0 by omega), e]
        exact fun _ h => h
    · by_cases hy : y = 0
      · have e := z3 hy
        rw [if_neg hx, if_pos hy, if_neg (show ¬ z = 0 by omega), e]
        exact fun h _ => h
      · rw [if_neg hx, if_neg hy]
        cases k.2
        · simp only [Bool.false_eq_true, if_false]
          intro h1 h2
          have hz : z ≠ 0 := fun hz => hx (t2 h1 h2 hz).1
          rw [if_neg hz]
          exact t1 h1 h2
        · simp only [if_true]
          intro h1 h2
          have hz : z ≠ 0 := fun hz => hx (by have := (t4 (by omega) (by omega) (by omega)).2; omega)
          rw [if_neg hz]
          exact t3 (by omega) (by omega)
/-- What the law of one order says. -/
theorem befB_order {a b c : List ValV} {ks : List (Int × Bool)} (ha : AllK ks a) (hb : AllK ks b) (hc : AllK ks c) :
    ((!befB a b ks && !befB b a ks) = decide (cmpR a b = 0)) ∧ (befB a b ks = true → befB b c ks = true → befB a c ks = true) := by
  rw [befB_cmp ha hb, befB_cmp hb ha, befB_cmp hb hc, befB_cmp ha hc]
  have n := cmpK_neg a b ks
  have z := @cmpK_zero a b ks
  constructor
  · by_cases h : a = b
    · rw [decide_eq_true (cmpR_zero.2 h), decide_eq_false (by rw [z.2 h]; omega), decide_eq_false (by rw [n, z.2 h]; omega)]
      rfl
    · have h0 : cmpK a b ks ≠ 0 := fun e => h (z.1 e)
      rw [decide_eq_false (fun e => h (cmpR_zero.1 e))]
      by_cases h1 : cmpK a b ks < 0
      · rw [decide_eq_true h1]; rfl
      · rw [decide_eq_true (show cmpK b a ks < 0 by omega)]; simp
  · intro h1 h2
    have g1 := of_decide_eq_true h1
    have g2 := of_decide_eq_true h2
    have t := cmpK_trans a b c ks (by omega) (by omega)
    refine decide_eq_true ?_
    by_cases e : cmpK a c ks = 0
    · have := cmpK_zero.1 e
      subst this
      have := cmpK_neg a b ks
      omega
    · omega
/-- Two lists, the least first element again and again; of the left one where they are level. -/
def mergeL {α : Type} (lt : α → α → Bool) : List α → List α → List α
  | [], r => r
  | a :: l, [] => a :: l
  | a :: l, b :: r => if lt b a then b :: mergeL lt (a :: l) r else a :: mergeL lt l (b :: r)
theorem mergeL_nil {α : Type} (lt : α → α → Bool) (l : List α) : mergeL lt l [] = l := by cases l <;> rw [mergeL]
theorem mergeL_perm {α : Type} (lt : α → α → Bool) : ∀ l r : List α, (mergeL lt l r).Perm (l ++ r)
  | [], r => by rw [mergeL]; exact List.Perm.refl _
  | a :: l, [] => by rw [mergeL]; simp
  | a :: l, b :: r => by
    rw [mergeL]
    split
    · refine ((mergeL_perm lt (a :: l) r).cons b).trans ?_
      exact (List.perm_middle (l₁ := a :: l) (l₂ := r) (a := b)).symm
    · exact (mergeL_perm lt l (b :: r)).cons a
theorem mergeL_len {α : Type} (lt : α → α → Bool) (l r : List α) : (mergeL lt l r).length = l.length + r.length := by rw [(mergeL_perm lt l r).length_eq, List.length_append]
theorem mergeL_right {α : Type} {lt : α → α → Bool} {a b : α} {l r : List α} (h : lt b a = true) : mergeL lt (a :: l) (b :: r) = b :: mergeL lt (a :: l) r := by rw [mergeL, if_pos h]
theorem mergeL_left {α : Type} {lt : α → α → Bool} {a b : α} {l r : List α} (h : lt b a = false) : mergeL lt (a :: l) (b :: r) = a :: mergeL lt l (b :: r) := by rw [mergeL, if_neg (by rw [h]; simp)]
end Go.Proofs.Ytahdkfenpflahaa
