/- Mathematics: merging by halves takes the least first row of all runs, the first of several, whatever order a run is in. No walk. -/
import Derived.Test.YtahdkfenpflahaaSoU
import Derived.Test.YtahdkfenpflahaaSoV
namespace Go.Proofs.Ytahdkfenpflahaa
set_option linter.unusedVariables false
open Go.ChangeShapes Go.WideShapes Go.ChangeAt Go.RowKit

/-- Of the first n runs, run k's first row x comes next. -/
structure LeastTo {α : Type} (lt : α → α → Bool) (L : List (List α)) (n k : Nat) (x : α) (t : List α) : Prop where
  small : k < n
  at_ : L[k]? = some (x :: t)
  low : ∀ i y s, i < n → L[i]? = some (y :: s) → lt y x = false
  first : ∀ i y s, i < k → L[i]? = some (y :: s) → lt x y = true
theorem mergeL_head {α : Type} {lt : α → α → Bool} {y : α} {s : List α} : ∀ {A B : List α}, mergeL lt A B = y :: s → (∃ u, A = y :: u) ∨ ∃ u, B = y :: u
  | [], B, h => by rw [mergeL] at h; exact .inr ⟨s, h⟩
  | a :: A, [], h => by rw [mergeL_nil] at h; exact .inl ⟨s, h⟩
  | a :: A, b :: B, h => by
    cases hx : lt b a with
    | true => rw [mergeL_right hx] at h; injection h with h1 h2; subst h1; exact .inr ⟨B, rfl⟩
    | false => rw [mergeL_left hx] at h; injection h with h1 h2; subst h1; exact .inl ⟨A, rfl⟩
theorem mergeN_head {α : Type} {lt : α → α → Bool} : ∀ (f : Nat) (L : List (List α)) (y : α) (s : List α), mergeN lt f L = y :: s → ∃ i u, i < L.length ∧ L[i]? = some (y :: u)
  | 0, L, y, s, h => by rw [mergeN] at h; cases h
  | f + 1, L, y, s, h => by
    rw [mergeN] at h
    by_cases h0 : L.length = 0
    · rw [if_pos h0] at h; cases h
    rw [if_neg h0] at h
    by_cases h1 : L.length = 1
    · rw [if_pos h1] at h
      obtain ⟨l, rfl⟩ := List.length_eq_one_iff.1 h1
      refine ⟨0, s, by simp, ?_⟩
      have : l = y :: s := by simpa using h
      rw [this]; rfl
    rw [if_neg h1] at h
    rcases mergeL_head h with ⟨u, hu⟩ | ⟨u, hu⟩
    · obtain ⟨i, v, hi, hv⟩ := mergeN_head f _ _ _ hu
      rw [List.length_take] at hi
      rw [List.getElem?_take_of_lt (by omega)] at hv
      exact ⟨i, v, by omega, hv⟩
    · obtain ⟨i, v, hi, hv⟩ := mergeN_head f _ _ _ hu
      rw [List.length_drop] at hi
      rw [List.getElem?_drop] at hv
      exact ⟨_, v, by omega, hv⟩
theorem mergeN_empty {α : Type} {lt : α → α → Bool} (f : Nat) (L : List (List α)) (h : ∀ l ∈ L, l = []) : mergeN lt f L = [] := by
  match hm : mergeN lt f L with
  | [] => rfl
  | y :: s =>
    obtain ⟨i, u, _, hu⟩ := mergeN_head f L y s hm
    have := h _ (List.mem_of_getElem? hu)
    cases this
theorem mergeN_step {α : Type} {lt : α → α → Bool} : ∀ (f : Nat) (L : List (List α)) (k : Nat) (x : α) (t : List α), L.length < f → LeastTo lt L L.length k x t → mergeN lt f L = x :: mergeN lt f (L.set k t)
  | 0, L, k, x, t, hf, _ => absurd hf (by omega)
  | f + 1, L, k, x, t, hf, h => by
    rw [mergeN, mergeN, List.length_set]
    have hk := h.small
    have h0 : ¬ L.length = 0 := by omega
    rw [if_neg h0, if_neg h0]
    by_cases h1 : L.length = 1
    · rw [if_pos h1, if_pos h1]
      obtain ⟨l, rfl⟩ := List.length_eq_one_iff.1 h1
      obtain rfl : k = 0 := by simp at hk; omega
      have e := h.at_
      simp at e
      subst e
      simp
    rw [if_neg h1, if_neg h1]
    obtain ⟨m, hm⟩ : ∃ m, L.length / 2 = m := ⟨_, rfl⟩
    rw [hm]
    by_cases hkm : k < m
    · have hs : LeastTo lt (L.take m) (L.take m).length k x t := by
        refine ⟨by rw [List.length_take]; omega, by rw [List.getElem?_take_of_lt hkm]; exact h.at_, fun i y s hi hy => ?_, fun i y s hi hy => ?_⟩
        · rw [List.length_take] at hi
          rw [List.getElem?_take_of_lt (by omega)] at hy
          exact h.low i y s (by omega) hy
        · rw [List.getElem?_take_of_lt (by omega)] at hy
          exact h.first i y s hi hy
      rw [mergeN_step f _ k x t (by rw [List.length_take]; omega) hs]
      have e1 : (L.set k t).take m = (L.take m).set k t := by rw [List.take_set]
      have e2 : (L.set k t).drop m = L.drop m := by rw [List.drop_set_of_lt hkm]
      rw [e1, e2]
      match hB : mergeN lt f (L.drop m) with
      | [] => rw [mergeL_nil, mergeL_nil]
      | b :: B =>
        obtain ⟨i, u, hi, hu⟩ := mergeN_head f _ _ _ hB
        rw [List.length_drop] at hi
        rw [List.getElem?_drop] at hu
        rw [mergeL_left (h.low _ b u (by omega) hu)]
    · have hs : LeastTo lt (L.drop m) (L.drop m).length (k - m) x t := by
        refine ⟨by rw [List.length_drop]; omega, by rw [List.getElem?_drop, show m + (k - m) = k from by omega]; exact h.at_, fun i y s hi hy => ?_, fun i y s hi hy => ?_⟩
        · rw [List.length_drop] at hi
          rw [List.getElem?_drop] at hy
          exact h.low _ y s (by omega) hy
        · rw [List.getElem?_drop] at hy
          exact h.first _ y s (by omega) hy
      rw [mergeN_step f _ _ x t (by rw [List.length_drop]; omega) hs]
      have e1 : (L.set k t).take m = L.take m := by rw [List.take_set_of_le (by omega)]
      have e2 : (L.set k t).drop m = (L.drop m).set (k - m) t := by rw [List.drop_set, if_neg hkm]
      rw [e1, e2]
      match hA : mergeN lt f (L.take m) with
      | [] => rw [mergeL, mergeL]
      | a :: A =>
        obtain ⟨i, u, hi, hu⟩ := mergeN_head f _ _ _ hA
        rw [List.length_take] at hi
        rw [List.getElem?_take_of_lt (by omega)] at hu
        rw [mergeL_right (h.first _ a u (by omega) hu)]
/-- An order among what S holds of. -/
structure OrdOn {α : Type} (lt : α → α → Bool) (S : α → Prop) : Prop where
  irr : ∀ x, S x → lt x x = false
  asy : ∀ x y, S x → S y → lt x y = true → lt y x = false
  tr : ∀ x y z, S x → S y → S z → lt z x = false → lt y x = true → lt y z = true
/-- What the search for the least knows behind n runs. -/
def LeastSt {α : Type} (lt : α → α → Bool) (L : List (List α)) (n : Nat) (v : Int) : Prop := (v = -1 ∧ ∀ i l, i < n → L[i]? = some l → l = []) ∨ ∃ (j : Nat) (x : α) (t : List α), v = j ∧ LeastTo lt L n j x t
section
variable {α : Type} {lt : α → α → Bool} {S : α → Prop} {L : List (List α)} {n : Nat} {v : Int} {y : α} {s : List α}
theorem LeastSt.zero : LeastSt lt L 0 (-1) := .inl ⟨rfl, fun i _ h => absurd h (by omega)⟩
theorem LeastSt.skip (h : LeastSt lt L n v) (h0 : L[n]? = some []) : LeastSt lt L (n + 1) v := by
  rcases h with ⟨e, h⟩ | ⟨j, x, t, e, h⟩
  · refine .inl ⟨e, fun i l hi hl => ?_⟩
    by_cases hn : i = n
    · subst hn; rw [h0] at hl; injection hl with hl; exact hl.symm
    · exact h i l (by omega) hl
  · refine .inr ⟨j, x, t, e, by have := h.small; omega, h.at_, fun i y s hi hy => ?_, h.first⟩
    by_cases hn : i = n
    · subst hn; rw [h0] at hy; injection hy with hy; cases hy
    · exact h.low i y s (by omega) hy
theorem LeastSt.fresh (h : LeastSt lt L n (-1)) (h0 : L[n]? = some (y :: s)) (hi : lt y y = false) : LeastSt lt L (n + 1) n := by
  rcases h with ⟨_, h⟩ | ⟨j, x, t, e, _⟩
  · refine .inr ⟨n, y, s, rfl, Nat.lt_succ_self _, h0, fun i z u hi2 hz => ?_, fun i z u hi2 hz => ?_⟩
    · by_cases hn : i = n
      · subst hn; rw [h0] at hz; injection hz with hz; injection hz with hz _; subst hz; exact hi
      · have := h i _ (by omega) hz; cases this
    · have := h i _ hi2 hz; cases this
  · omega
theorem LeastTo.keep {j : Nat} {x : α} {t : List α} (h : LeastTo lt L n j x t) (h0 : L[n]? = some (y :: s)) (hl : lt y x = false) : LeastTo lt L (n + 1) j x t := by
  refine ⟨by have := h.small; omega, h.at_, fun i z u hi hz => ?_, h.first⟩
  by_cases hn : i = n
  · subst hn; rw [h0] at hz; injection hz with hz; injection hz with hz _; subst hz; exact hl
  · exact h.low i z u (by omega) hz
theorem LeastTo.take {j : Nat} {x : α} {t : List α} (h : LeastTo lt L n j x t) (o : OrdOn lt S) (hS : ∀ l ∈ L, ∀ r ∈ l, S r) (h0 : L[n]? = some (y :: s)) (hl : lt y x = true) : LeastTo lt L (n + 1) n y s := by
  have hx : S x := hS _ (List.mem_of_getElem? h.at_) x (by simp)
  have hy : S y := hS _ (List.mem_of_getElem? h0) y (by simp)
  have hT : ∀ i z u, i < n → L[i]? = some (z :: u) → lt y z = true := fun i z u hi hz => o.tr x y z hx hy (hS _ (List.mem_of_getElem? hz) z (by simp)) (h.low i z u hi hz) hl
  refine ⟨Nat.lt_succ_self _, h0, fun i z u hi hz => ?_, hT⟩
  by_cases hn : i = n
  · subst hn; rw [h0] at hz; injection hz with hz; injection hz with hz _; subst hz; exact o.irr _ hy
  · exact o.asy _ _ hy (hS _ (List.mem_of_getElem? hz) z (by simp)) (hT i z u (by omega) hz)
end
def ltR (ks : List (Int × Bool)) (r s : List ValV) : Bool := befB r s ks
theorem ordK (ks : List (Int × Bool)) : OrdOn (ltR ks) (AllK ks) := by
  refine ⟨fun x _ => befB_irrefl x ks, fun x y _ _ h => befB_asymm x y ks h, fun x y z hx hy hz h1 h2 => ?_⟩
  unfold ltR at *
  rw [befB_cmp hz hx] at h1
  rw [befB_cmp hy hx] at h2
  rw [befB_cmp hy hz]
  have g1 := of_decide_eq_false h1
  have g2 := of_decide_eq_true h2
  have hn := cmpK_neg z x ks
  have ht := cmpK_trans y x z ks (by omega) (by omega)
  refine decide_eq_true ?_
  by_cases h0 : cmpK y z ks = 0
  · have e := cmpK_zero.1 h0
    subst e
    omega
  · omega
theorem mergeR_step {ks : List (Int × Bool)} {L : List (List (List ValV))} {k : Nat} {x : List ValV} {t : List (List ValV)} (h : LeastTo (ltR ks) L L.length k x t) : mergeR ks L = x :: mergeR ks (L.set k t) := by
  unfold mergeR
  rw [List.length_set]
  exact mergeN_step _ L k x t (Nat.lt_succ_self _) h
theorem mergeR_empty {ks : List (Int × Bool)} {L : List (List (List ValV))} (h : ∀ l ∈ L, l = []) : mergeR ks L = [] := mergeN_empty _ L h
end Go.Proofs.Ytahdkfenpflahaa
