/- A region that draws its order, by induction over what has come up: one invariant, each operation run once. No walk. -/
import Derived.Test.YtlkeghfdpbfhbaaLib
import Derived.Deep.RegionHeld
namespace Go.Proofs.Ytlkeghfdpbfhbaa
set_option linter.unusedVariables false

theorem cnt_set : ∀ (l : List Bool) (i : Nat), l[i]? = some false → (l.set i true).count false + 1 = l.count false
  | [], i, h => by simp at h
  | b :: l, 0, h => by
    simp only [List.getElem?_cons_zero, Option.some.injEq] at h
    subst h
    simp
  | b :: l, i + 1, h => by
    have ih := cnt_set l i (by simpa using h)
    rw [List.set_cons_succ, List.count_cons, List.count_cons]
    omega
section
variable {P : Program} {ops : Array Oper} {Q : Exit → Act → World → Prop} {md : Region.Mode} {S : World → Prop}
/-- What holds at the start and is kept by whatever comes up holds at the end. -/
theorem wpAnyH_inv (J : Array Bool → Act → World → Prop)
    (hstep : ∀ listed a w, J listed a w → ∀ i ∈ Region.ready md ops listed, wpOp P ops Q i (fun a' w' => S w' ∧ J (listed.setIfInBounds i true) a' w') a w)
    (hfin : ∀ listed a w, J listed a w → Region.ready md ops listed = [] → Q .normal a w) :
    ∀ (fuel : Nat) (listed : Array Bool) (a : Act) (w : World), J listed a w → listed.toList.count false ≤ fuel → wpAnyH P md ops Q S fuel listed a w
  | 0, listed, a, w, hJ, hc => by
    have hr : Region.ready md ops listed = [] := by
      cases h : Region.ready md ops listed with
      | nil => rfl
      | cons i rs =>
        have hm := (mem_ready.1 (show i ∈ Region.ready md ops listed by rw [h]; exact List.mem_cons_self ..)).1
        have : listed.toList[i]? = some false := by
          rw [Array.getElem?_toList]
          rcases Nat.lt_or_ge i listed.size with h' | h'
          · simp [h'] at hm ⊢
            exact hm
          · simp [Array.getElem?_eq_none h'] at hm
        have := cnt_set _ _ this
        omega
    exact ⟨hr, hfin listed a w hJ hr⟩
  | fuel + 1, listed, a, w, hJ, hc => by
    refine ⟨hfin listed a w hJ, fun i hi => wpOp_mono (fun a' w' h => ⟨h.1, wpAnyH_inv J hstep hfin fuel _ a' w' h.2 ?_⟩) (hstep listed a w hJ i hi)⟩
    have hm := (mem_ready.1 hi).1
    have hf : listed.toList[i]? = some false := by
      rw [Array.getElem?_toList]
      rcases Nat.lt_or_ge i listed.size with h' | h'
      · simp [h'] at hm ⊢
        exact hm
      · simp [Array.getElem?_eq_none h'] at hm
    have := cnt_set _ _ hf
    rw [Array.toList_setIfInBounds]
    omega
/-- The act with other values in some places. -/
def puts (a : Act) : List Nat → List Value → Act
  | d :: ds, v :: vs => puts (a.put (some d) v) ds vs
  | _, _ => a
/-- So where the act changes in some places alone. -/
theorem wpAnyH_puts (ds : List Nat) (J : Array Bool → List Value → World → Prop) {base : Act} {vs0 : List Value} {fuel : Nat} {listed0 : Array Bool} {w0 : World}
    (hbase : base = puts base ds vs0) (h0 : J listed0 vs0 w0) (hc : listed0.toList.count false ≤ fuel)
    (hstep : ∀ listed vs w, J listed vs w → ∀ i ∈ Region.ready md ops listed, wpOp P ops Q i (fun a' w' => S w' ∧ ∃ vs', a' = puts base ds vs' ∧ J (listed.setIfInBounds i true) vs' w') (puts base ds vs) w)
    (hfin : ∀ listed vs w, J listed vs w → Region.ready md ops listed = [] → Q .normal (puts base ds vs) w) : wpAnyH P md ops Q S fuel listed0 base w0 := by
  refine wpAnyH_inv (fun listed a w => ∃ vs, a = puts base ds vs ∧ J listed vs w) ?_ ?_ fuel listed0 base w0 ⟨vs0, hbase, h0⟩ hc
  · rintro listed a w ⟨vs, rfl, hJ⟩ i hi
    exact hstep listed vs w hJ i hi
  · rintro listed a w ⟨vs, rfl, hJ⟩ hr
    exact hfin listed vs w hJ hr
/-- An operation that may come up has not come up; what it waits for has. -/
theorem ready_get {i : Nat} {o : Oper} {listed : Array Bool} (h : i ∈ Region.ready md ops listed) (ho : ops[i]? = some o) : listed.getD i true = false ∧ ∀ e ∈ o.after, Region.binds md e = true → listed.getD e.on false = true := by
  obtain ⟨h1, o', h2, h3⟩ := mem_ready.1 h
  rw [ho] at h2
  injection h2 with h2
  subst h2
  exact ⟨h1, h3⟩
theorem ready_put {i : Nat} {o : Oper} {listed : Array Bool} (h : Region.ready md ops listed = []) (ho : ops[i]? = some o) (h1 : ∀ e ∈ o.after, Region.binds md e = true → listed.getD e.on false = true) : listed.getD i true = true := by
  cases hb : listed.getD i true with
  | true => rfl
  | false =>
    have := mem_ready.2 ⟨hb, o, ho, h1⟩
    rw [h] at this
    cases this
end
end Go.Proofs.Ytlkeghfdpbfhbaa
