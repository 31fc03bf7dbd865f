/- Kinds that are not known: plain functions. -/
import Derived.Test.YtiaolpeenbmidaaTypesI
namespace Go.Proofs.Ytiaolpeenbmidaa
set_option linter.unusedVariables false

/-- Some of the kinds of the second list have been forgotten. -/
def Weak : List Int → List Int → Prop
  | [], [] => True
  | x :: xs, y :: ys => (x = y ∨ x = 0) ∧ Weak xs ys
  | _, _ => False
theorem weak_refl : ∀ l : List Int, Weak l l
  | [] => trivial
  | x :: l => ⟨.inl rfl, weak_refl l⟩
theorem weak_set : ∀ (l : List Int) (k : Nat), Weak (l.set k 0) l
  | [], _ => by simp [Weak]
  | x :: l, 0 => ⟨.inr rfl, weak_refl l⟩
  | x :: l, k + 1 => ⟨.inl rfl, weak_set l k⟩
theorem weak_len : ∀ {l m : List Int}, Weak l m → l.length = m.length
  | [], [], _ => rfl
  | x :: l, y :: m, h => by simp [weak_len h.2]
  | [], _ :: _, h => h.elim
  | _ :: _, [], h => h.elim
theorem weak_fits {k : Int} (hk : isK k = true) : ∀ {l m : List Int}, Weak l m → fitsL k m = true → fitsL k l = true
  | [], [], _, _ => rfl
  | x :: l, y :: m, h, hf => by
    simp only [fitsL, List.all_cons, Bool.and_eq_true] at hf ⊢
    refine ⟨?_, weak_fits hk h.2 hf.2⟩
    rcases h.1 with rfl | rfl
    · exact hf.1
    · have := (isK_iff k).1 hk
      exact (joinB_iff _ _).2 ⟨this, by omega, by omega⟩
  | [], _ :: _, h, _ => h.elim
  | _ :: _, [], h, _ => h.elim
theorem jstep_true (s z : Int) : jstep (s, true) z = (joinV s z, joinB s z) := rfl
theorem weak_fold : ∀ {l m : List Int} (s s' : Int), Weak l m → (s' = s ∨ s' = 0) → (m.foldl jstep (s, true)).2 = true → (l.foldl jstep (s', true)).2 = true ∧ ((l.foldl jstep (s', true)).1 = (m.foldl jstep (s, true)).1 ∨ (l.foldl jstep (s', true)).1 = 0)
  | [], [], s, s', _, hs, _ => ⟨rfl, hs⟩
  | x :: l, y :: m, s, s', h, hs, hf => by
    simp only [List.foldl_cons, jstep_true] at hf ⊢
    cases hj : joinB s y
    · rw [hj, jfold_false] at hf; cases hf
    · rw [hj] at hf
      have a1 := join_ar s y
      have a2 := join_ar s' x
      have hx := h.1
      rw [hj] at a1
      cases hj' : joinB s' x
      · rw [hj'] at a2
        simp only [Bool.false_eq_true, Bool.true_eq_false, false_and, true_and, false_or, or_false] at a1 a2
        omega
      · rw [hj'] at a2
        simp only [Bool.true_eq_false, false_and, true_and, or_false] at a1 a2
        exact weak_fold _ _ h.2 (by omega) hf
  | [], _ :: _, _, _, h, _, _ => h.elim
  | _ :: _, [], _, _, h, _, _ => h.elim
theorem weak_join {l m : List Int} (h : Weak l m) (hf : (joinAll m).2 = true) : (joinAll l).2 = true ∧ ((joinAll l).1 = (joinAll m).1 ∨ (joinAll l).1 = 0) := weak_fold 0 0 h (.inl rfl) hf
theorem weak_conds : ∀ {l m : List Int}, Weak l m → Weak (condsOf l) (condsOf m) ∧ Weak (valsOf l) (valsOf m)
  | [], [], _ => by simp [condsOf, valsOf, Weak]
  | [x], [y], h => by simpa [condsOf, valsOf, Weak] using h
  | x :: x' :: l, y :: y' :: m, h => by
    have := weak_conds h.2.2
    simp only [condsOf, valsOf]
    exact ⟨⟨h.1, this.1⟩, ⟨h.2.1, this.2⟩⟩
  | [], _ :: _, h => h.elim
  | _ :: _, [], h => h.elim
  | [_], _ :: _ :: _, h => h.2.elim
  | _ :: _ :: _, [_], h => h.2.elim
/-- What is taken is taken, and makes the same kind or one that is not known. -/
def Kept (p q : Int × Int) : Prop := q.2 = 0 → p.2 = 0 ∧ (p.1 = q.1 ∨ p.1 = 0)
theorem kept_res {k : Int} {b c : Bool} (h : c = true → b = true) : Kept (resI k b) (resI k c) := by
  cases b <;> cases c <;> simp [Kept, resI] at h ⊢
theorem kept_join {l m : List Int} (h : Weak l m) : Kept (resI (joinAll l).1 (joinAll l).2) (resI (joinAll m).1 (joinAll m).2) := by
  cases hm : (joinAll m).2
  · simp [Kept, resI]
  · obtain ⟨h1, h2⟩ := weak_join h hm
    rw [h1]
    intro _
    exact ⟨rfl, h2⟩
theorem kept_choice {l m : List Int} (h : Weak l m) : Kept (choiceI l) (choiceI m) := by
  obtain ⟨h1, h2⟩ := weak_conds h
  unfold choiceI
  cases hm : fitsL 1 (condsOf m)
  · simp [Kept]
  · rw [weak_fits rfl h1 hm]
    exact kept_join h2
theorem weak_head {l m : List Int} (h : Weak l m) : l.getD 0 0 = m.getD 0 0 ∨ l.getD 0 0 = 0 := by
  match l, m, h with
  | [], [], _ => left; rfl
  | x :: l, y :: m, h => exact h.1
theorem kept_body {op : Int} {l m : List Int} (h : Weak l m) : Kept (bodyI op l) (bodyI op m) := by
  unfold bodyI
  repeat' split
  · exact kept_res (weak_fits rfl h)
  · exact kept_res (weak_fits rfl h)
  · exact kept_res (weak_fits rfl h)
  · exact kept_res (weak_fits rfl h)
  · refine kept_res fun hk => ?_
    rcases weak_head h with e | e
    · rw [e]; exact hk
    · rw [e]; rfl
  · exact kept_choice h
  · exact kept_res fun hk => (weak_join h hk).1
theorem kept_op {op : Int} {l m : List Int} (h : Weak l m) : Kept (opI op l) (opI op m) := by
  unfold opI
  rw [weak_len h]
  split
  · simp [Kept]
  · split
    · simp [Kept]
    · exact kept_body h
theorem kept_func {name : ByteArray} {n : Nat} {l m : List Int} (h : Weak l m) : Kept (funcI name n l) (funcI name n m) := by
  unfold funcI
  repeat' split
  all_goals first
    | exact kept_res (weak_fits rfl h)
    | exact kept_join h
    | simp [Kept]
end Go.Proofs.Ytiaolpeenbmidaa
