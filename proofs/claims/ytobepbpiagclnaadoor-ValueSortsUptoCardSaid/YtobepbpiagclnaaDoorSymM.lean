/- Mathematics of the merge in place: what two searches find, and what two merged parts make. No walk. -/
import Derived.Test.YtobepbpiagclnaaDoorInsG
namespace Go.Proofs.YtobepbpiagclnaaDoor
set_option linter.unusedVariables false
open Go.ChangeShapes Go.WideShapes Go.ChangeAt Go.RowKit

theorem rises_le {l : List RowP} (h : RisesP l) {i j : Nat} {x y : RowP} (hij : i ≤ j) (hx : l[i]? = some x) (hy : l[j]? = some y) : cmpR x.2 y.2 ≤ 0 := by
  by_cases e : i = j
  · subst e
    rw [hx] at hy
    injection hy with hy
    subst hy
    rw [cmpR_refl]
    exact Int.le_refl 0
  · obtain ⟨h1, rfl⟩ := List.getElem?_eq_some_iff.1 hx
    obtain ⟨h2, rfl⟩ := List.getElem?_eq_some_iff.1 hy
    exact List.pairwise_iff_getElem.1 h i j h1 h2 (by omega)
theorem take_le {l : List RowP} (h : RisesP l) {s : Nat} {x u : RowP} (hx : l[s - 1]? = some x) (hu : u ∈ l.take s) : cmpR u.2 x.2 ≤ 0 := by
  obtain ⟨i, hi⟩ := List.getElem?_of_mem hu
  have hl := (List.getElem?_eq_some_iff.1 hi).1
  rw [List.length_take] at hl
  rw [List.getElem?_take_of_lt (by omega)] at hi
  exact rises_le h (by omega) hi hx
theorem drop_le {l : List RowP} (h : RisesP l) {s : Nat} {x u : RowP} (hx : l[s]? = some x) (hu : u ∈ l.drop s) : cmpR x.2 u.2 ≤ 0 := by
  obtain ⟨i, hi⟩ := List.getElem?_of_mem hu
  rw [List.getElem?_drop] at hi
  exact rises_le h (by omega) hx hi
/-- Where the search of the merge ends, both halves are told apart. -/
theorem sym_split {U V : List RowP} {K s : Nat} (hU : RisesP U) (hV : RisesP V) (hs1 : K - V.length ≤ s) (hs2 : s ≤ min K U.length)
    (I1 : s = K - V.length ∨ ∃ x y, U[s - 1]? = some x ∧ V[K - s]? = some y ∧ cmpR x.2 y.2 ≤ 0)
    (I2 : s = min K U.length ∨ ∃ x y, U[s]? = some x ∧ V[K - s - 1]? = some y ∧ cmpR y.2 x.2 < 0) :
    (∀ u ∈ U.take s, ∀ v ∈ V.drop (K - s), cmpR u.2 v.2 ≤ 0) ∧ (∀ v ∈ V.take (K - s), ∀ u ∈ U.drop s, cmpR v.2 u.2 ≤ 0) := by
  constructor
  · clear I2
    intro u hu v hv
    rcases I1 with e | ⟨x, y, hx, hy, hxy⟩
    · by_cases hk : K ≤ V.length
      · rw [show s = 0 from by omega] at hu
        simp at hu
      · rw [List.drop_of_length_le (by omega)] at hv
        cases hv
    · exact cmpR_trans _ _ _ (take_le hU hx hu) (cmpR_trans _ _ _ hxy (drop_le hV hy hv))
  · clear I1
    intro v hv u hu
    rcases I2 with e | ⟨x, y, hx, hy, hxy⟩
    · by_cases hk : K ≤ U.length
      · rw [show K - s = 0 from by omega] at hv
        simp at hv
      · rw [List.drop_of_length_le (by omega)] at hu
        cases hu
    · exact cmpR_trans _ _ _ (take_le hV hy hv) (cmpR_trans _ _ _ (Int.le_of_lt hxy) (drop_le hU hx hu))
theorem sym_join {U1 U2 V1 V2 W1 W2 : List RowP} (hU : RisesP (U1 ++ U2)) (hV : RisesP (V1 ++ V2)) (hA : ∀ u ∈ U1, ∀ v ∈ V2, cmpR u.2 v.2 ≤ 0) (hB : ∀ v ∈ V1, ∀ u ∈ U2, cmpR v.2 u.2 ≤ 0)
    (p1 : W1.Perm (U1 ++ V1)) (p2 : W2.Perm (U2 ++ V2)) (r1 : RisesP W1) (r2 : RisesP W2) : RisesP (W1 ++ W2) ∧ (W1 ++ W2).Perm ((U1 ++ U2) ++ (V1 ++ V2)) := by
  obtain ⟨_, _, u3⟩ := List.pairwise_append.1 hU
  obtain ⟨_, _, v3⟩ := List.pairwise_append.1 hV
  constructor
  · refine List.pairwise_append.2 ⟨r1, r2, fun x hx y hy => ?_⟩
    rcases List.mem_append.1 (p1.mem_iff.1 hx) with hx | hx
    · rcases List.mem_append.1 (p2.mem_iff.1 hy) with hy | hy
      · exact u3 x hx y hy
      · exact hA x hx y hy
    · rcases List.mem_append.1 (p2.mem_iff.1 hy) with hy | hy
      · exact hB x hx y hy
      · exact v3 x hx y hy
  · refine (p1.append p2).trans ?_
    have e : (U1 ++ V1) ++ (U2 ++ V2) = U1 ++ (V1 ++ U2) ++ V2 := by simp
    have e2 : (U1 ++ U2) ++ (V1 ++ V2) = U1 ++ (U2 ++ V1) ++ V2 := by simp
    rw [e, e2]
    exact ((List.perm_append_comm (l₁ := V1) (l₂ := U2)).append_left U1).append_right V2
theorem rises_part {U V : List RowP} (h : RisesP (U ++ V)) : RisesP U ∧ RisesP V := by
  obtain ⟨h1, h2, _⟩ := List.pairwise_append.1 h
  exact ⟨h1, h2⟩
/-- One row, put where a search ends. -/
theorem one_in {V : List RowP} {x : RowP} {i : Nat} (hV : RisesP V) (I1 : i = 0 ∨ ∃ y, V[i - 1]? = some y ∧ cmpR y.2 x.2 ≤ 0) (I2 : V.length ≤ i ∨ ∃ y, V[i]? = some y ∧ cmpR x.2 y.2 ≤ 0) :
    RisesP (V.take i ++ x :: V.drop i) ∧ (V.take i ++ x :: V.drop i).Perm (x :: V) := by
  constructor
  · refine rises_mid (by rw [List.take_append_drop]; exact hV) (fun v hv => ?_) (fun u hu => ?_)
    · rcases I2 with e | ⟨y, hy, hxy⟩
      · rw [List.drop_of_length_le e] at hv
        cases hv
      · exact cmpR_trans _ _ _ hxy (drop_le hV hy hv)
    · rcases I1 with e | ⟨y, hy, hxy⟩
      · subst e
        simp at hu
      · exact cmpR_trans _ _ _ (take_le hV hy hu) hxy
  · refine List.perm_middle.trans ?_
    rw [List.take_append_drop]
section
variable {base g n cap : Nat} {w w' : World} {ps : List RowP}
/-- The exchange of two heads, as the walk leaves it. -/
theorem SortR.swapAt (h : SortR base w g n cap ps) {i j : Nat} {p q : RowP} (hp : ps[i]? = some p) (hq : ps[j]? = some q) :
    SortR base ((w.setCell ⟨g, j, none⟩ (headV p)).setCell ⟨g, i, none⟩ (headV q)) g n cap ((ps.set j p).set i q) := by
  have h1 := h.put j (List.mem_of_getElem? hp)
  refine ⟨?_, ?_, ?_⟩
  · have := (h1.own.stored i (headV q)).1
    rwa [List.map_set (a := q) (l := ps.set j p)]
  · intro x hx
    rw [World.size_setCell, World.size_setCell]
    have hx' : x ∈ ps := by
      rcases List.mem_or_eq_of_mem_set hx with hx | rfl
      · rcases List.mem_or_eq_of_mem_set hx with hx | rfl
        · exact hx
        · exact List.mem_of_getElem? hp
      · exact List.mem_of_getElem? hq
    exact SlAt.set (SlAt.set (h.each x hx') (p := ⟨g, j, none⟩) (h.fresh x hx') _) (p := ⟨g, i, none⟩) (h.fresh x hx') _
  · intro x hx
    rcases List.mem_or_eq_of_mem_set hx with hx | rfl
    · exact h1.fresh x hx
    · exact h.fresh x (List.mem_of_getElem? hq)
end
theorem swap_far (L M N : List RowP) (p q : RowP) : ((L ++ p :: (M ++ q :: N)).set (L.length + 1 + M.length) p).set L.length q = L ++ q :: (M ++ p :: N) := by
  rw [List.set_append_right _ _ (by omega), show L.length + 1 + M.length - L.length = M.length + 1 from by omega, List.set_cons_succ, List.set_append_right _ _ (by omega), Nat.sub_self, List.set_cons_zero, List.set_append_right _ _ (by omega), Nat.sub_self, List.set_cons_zero]
/-- What holds between two exchanges. -/
structure MovR (base g n cap : Nat) (w wr : World) (D : List RowP) : Prop where
  below : Below base w wr
  at_ : SortR base wr g n cap D
section
variable {base g n cap : Nat} {w wr wr' : World} {D L M N : List RowP} {p q : RowP}
theorem MovR.kept (h : MovR base g n cap w wr D) (hbw : base ≤ wr.heap.size) (hb : Below wr.heap.size wr wr') : MovR base g n cap w wr' D := ⟨h.below.trans (hb.mono hbw), h.at_.kept hb⟩
theorem MovR.low (h : MovR base g n cap w wr D) (hw : base ≤ w.heap.size) : base ≤ wr.heap.size := Nat.le_trans hw h.below.size
theorem MovR.swap (h : MovR base g n cap w wr (L ++ p :: (M ++ q :: N))) (hg : base ≤ g) {i j : Nat} (hi : i = L.length) (hj : j = L.length + 1 + M.length) :
    MovR base g n cap w ((wr.setCell ⟨g, j, none⟩ (headV p)).setCell ⟨g, i, none⟩ (headV q)) (L ++ q :: (M ++ p :: N)) := by
  subst hi hj
  refine ⟨Below.setCell (Below.setCell h.below (p := ⟨g, _, none⟩) hg _) (p := ⟨g, _, none⟩) hg _, ?_⟩
  have := h.at_.swapAt (i := L.length) (j := L.length + 1 + M.length) (p := p) (q := q) (by simp) (by rw [List.getElem?_append_right (by omega), show L.length + 1 + M.length - L.length = M.length + 1 from by omega, List.getElem?_cons_succ, List.getElem?_append_right (by omega)]; simp)
  rwa [swap_far] at this
/-- The same, the earlier one stored first. -/
theorem MovR.swap' (h : MovR base g n cap w wr (L ++ p :: (M ++ q :: N))) (hg : base ≤ g) {i j : Nat} (hi : i = L.length) (hj : j = L.length + 1 + M.length) :
    MovR base g n cap w ((wr.setCell ⟨g, i, none⟩ (headV q)).setCell ⟨g, j, none⟩ (headV p)) (L ++ q :: (M ++ p :: N)) := by
  subst hi hj
  refine ⟨Below.setCell (Below.setCell h.below (p := ⟨g, _, none⟩) hg _) (p := ⟨g, _, none⟩) hg _, ?_⟩
  have := h.at_.swapAt (j := L.length) (i := L.length + 1 + M.length) (q := p) (p := q) (by rw [List.getElem?_append_right (by omega), show L.length + 1 + M.length - L.length = M.length + 1 from by omega, List.getElem?_cons_succ, List.getElem?_append_right (by omega)]; simp) (by simp)
  rw [List.set_comm _ _ (by omega), swap_far] at this
  exact this
theorem MovR.cells (h : MovR base g n cap w wr (L ++ p :: (M ++ q :: N))) {i j : Nat} (hi : i = L.length) (hj : j = L.length + 1 + M.length) :
    wr.cell? ⟨g, i, none⟩ = some (headV p) ∧ wr.cell? ⟨g, j, none⟩ = some (headV q) ∧ wr.frozen? ⟨g, i, none⟩ = false ∧ wr.frozen? ⟨g, j, none⟩ = false ∧ j < n := by
  subst hi hj
  have h1 := h.at_.cell (i := L.length) (p := p) (by simp)
  have h2 := h.at_.cell (i := L.length + 1 + M.length) (p := q) (by rw [List.getElem?_append_right (by omega), show L.length + 1 + M.length - L.length = M.length + 1 from by omega, List.getElem?_cons_succ, List.getElem?_append_right (by omega)]; simp)
  have hl := h.at_.len
  simp only [List.length_append, List.length_cons] at hl
  exact ⟨h1.1, h2.1, h1.2, h2.2, by omega⟩
end
end Go.Proofs.YtobepbpiagclnaaDoor
