/- The contract of the insertion sort on any rows. -/
import Derived.Test.YtobepbpiagclnaaDoorSortR
import Derived.BigRegion
namespace Go.Proofs.YtobepbpiagclnaaDoor
set_option linter.unusedVariables false
open Go.ChangeShapes Go.WideShapes Go.ChangeAt Go.RowKit

def RisesP (l : List RowP) : Prop := l.Pairwise fun p q => cmpR p.2 q.2 ≤ 0
theorem rises_mid {U V : List RowP} {x : RowP} (h : RisesP (U ++ V)) (hv : ∀ v ∈ V, cmpR x.2 v.2 ≤ 0) (hu : ∀ u ∈ U, cmpR u.2 x.2 ≤ 0) : RisesP (U ++ x :: V) := by
  obtain ⟨h1, h2, h3⟩ := List.pairwise_append.1 h
  refine List.pairwise_append.2 ⟨h1, List.pairwise_cons.2 ⟨hv, h2⟩, fun p hp q hq => ?_⟩
  rcases List.mem_cons.1 hq with rfl | hq
  · exact hu p hp
  · exact h3 p hp q hq
theorem rises_last {U V : List RowP} {u x : RowP} (h : RisesP (U ++ [u] ++ V)) (hx : ¬ cmpR x.2 u.2 < 0) : ∀ p ∈ U ++ [u], cmpR p.2 x.2 ≤ 0 := by
  have hux : cmpR u.2 x.2 ≤ 0 := by have := cmpR_neg x.2 u.2; omega
  obtain ⟨h1, _, _⟩ := List.pairwise_append.1 h
  obtain ⟨_, _, h3⟩ := List.pairwise_append.1 h1
  intro p hp
  rcases List.mem_append.1 hp with hp | hp
  · exact cmpR_trans _ _ _ (h3 p hp u (by simp)) hux
  · obtain rfl := List.mem_singleton.1 hp
    exact hux
/-- What the inner loop holds. -/
structure InsR (base g n cap : Nat) (w wr : World) (L0 T R : List RowP) (x : RowP) (U V : List RowP) : Prop where
  below : Below base w wr
  perm : (U ++ V).Perm T
  rises : RisesP (U ++ V)
  less : ∀ v ∈ V, cmpR x.2 v.2 < 0
  at_ : SortR base wr g n cap (L0 ++ U ++ x :: (V ++ R))
/-- What the outer loop holds. -/
structure OutR (base g n cap : Nat) (w wr : World) (L0 T R : List RowP) (S : List RowP) : Prop where
  below : Below base w wr
  perm : S.Perm T
  rises : RisesP S
  at_ : SortR base wr g n cap (L0 ++ S ++ R)
theorem InsR.done {base g n cap : Nat} {w wr : World} {L0 T R : List RowP} {x : RowP} {U V : List RowP} (h : InsR base g n cap w wr L0 T R x U V) (hu : ∀ u ∈ U, cmpR u.2 x.2 ≤ 0) : OutR base g n cap w wr L0 (T ++ [x]) R (U ++ x :: V) := by
  refine ⟨h.below, ?_, rises_mid h.rises (fun v hv => Int.le_of_lt (h.less v hv)) hu, by simpa using h.at_⟩
  exact (List.perm_middle).trans ((h.perm.cons x).trans (List.perm_append_singleton x T).symm)
theorem InsR.kept {base g n cap : Nat} {w wr wr' : World} {L0 T R : List RowP} {x : RowP} {U V : List RowP} (h : InsR base g n cap w wr L0 T R x U V) (hbw : base ≤ wr.heap.size) (hb : Below wr.heap.size wr wr') : InsR base g n cap w wr' L0 T R x U V :=
  ⟨h.below.trans (hb.mono hbw), h.perm, h.rises, h.less, h.at_.kept hb⟩
theorem InsR.swap {base g n cap : Nat} {w wr : World} {L0 T R : List RowP} {x u : RowP} {U V : List RowP} (h : InsR base g n cap w wr L0 T R x (U ++ [u]) V) (hg : base ≤ g) (hx : cmpR x.2 u.2 < 0) :
    InsR base g n cap w ((wr.setCell ⟨g, (L0 ++ U).length + 1, none⟩ (headV u)).setCell ⟨g, (L0 ++ U).length, none⟩ (headV x)) L0 T R x U (u :: V) := by
  refine ⟨Below.setCell (Below.setCell h.below (p := ⟨g, _, none⟩) hg _) (p := ⟨g, _, none⟩) hg _, by simpa using h.perm, by have := h.rises; simpa [RisesP] using this, ?_, ?_⟩
  · intro v hv
    rcases List.mem_cons.1 hv with rfl | hv
    · exact hx
    · exact h.less v hv
  · have e : L0 ++ (U ++ [u]) ++ x :: (V ++ R) = (L0 ++ U) ++ u :: x :: (V ++ R) := by simp
    have hs := h.at_
    rw [e] at hs
    have := hs.swap (j := (L0 ++ U).length) (p := u) (q := x) (by simp) (by rw [List.getElem?_append_right (by omega)]; simp)
    rw [swap_form] at this
    simpa using this
theorem InsR.cells {base g n cap : Nat} {w wr : World} {L0 T R : List RowP} {x u : RowP} {U V : List RowP} (h : InsR base g n cap w wr L0 T R x (U ++ [u]) V) :
    wr.cell? ⟨g, (L0 ++ U).length, none⟩ = some (headV u) ∧ wr.cell? ⟨g, (L0 ++ U).length + 1, none⟩ = some (headV x) ∧ wr.frozen? ⟨g, (L0 ++ U).length, none⟩ = false ∧ wr.frozen? ⟨g, (L0 ++ U).length + 1, none⟩ = false ∧ (L0 ++ U).length + 1 < n := by
  have e : L0 ++ (U ++ [u]) ++ x :: (V ++ R) = (L0 ++ U) ++ u :: x :: (V ++ R) := by simp
  have hs := h.at_
  rw [e] at hs
  have h1 := hs.cell (i := (L0 ++ U).length) (p := u) (by simp)
  have h2 := hs.cell (i := (L0 ++ U).length + 1) (p := x) (by rw [List.getElem?_append_right (by omega)]; simp)
  have hl := hs.len
  simp only [List.length_append, List.length_cons] at hl
  exact ⟨h1.1, h2.1, h1.2, h2.2, by simp only [List.length_append]; omega⟩
end Go.Proofs.YtobepbpiagclnaaDoor
