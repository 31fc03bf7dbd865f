/- The state of a sort: a row of the call's own that holds slices, each with its values. (For ValueSorts, ValueBags: the general sort.) -/
import Derived.Test.YtobepbpiagclnaaDoorValGc
namespace Go.Proofs.YtobepbpiagclnaaDoor
set_option linter.unusedVariables false
open Go.ChangeShapes Go.WideShapes Go.ChangeAt Go.RowKit

abbrev RowP := ListV × List ValV
def headV (p : RowP) : Value := .slice p.1.A p.1.n p.1.c
structure SortR (base : Nat) (w : World) (g n cap : Nat) (ps : List RowP) : Prop where
  own : w.ownsRow base 26 1 (.slice (some ⟨g, 0, none⟩) n cap) n (ps.map headV)
  each : ∀ p ∈ ps, SlAt valCells 3 w w.heap.size p.1.A p.1.n p.1.c p.2
  fresh : ∀ p ∈ ps, FreshA (g + 1) p.1.A
section
variable {base g n cap : Nat} {w w' : World} {ps : List RowP}
theorem SortR.len (h : SortR base w g n cap ps) : ps.length = n := by have := h.own.1; simpa using this
theorem SortR.kept (h : SortR base w g n cap ps) (hb : Below w.heap.size w w') : SortR base w' g n cap ps := ⟨own_below h.own hb, fun p hp => (h.each p hp).kept hb, h.fresh⟩
theorem SortR.cell (h : SortR base w g n cap ps) {i : Nat} {p : RowP} (hi : ps[i]? = some p) : w.cell? ⟨g, i, none⟩ = some (headV p) ∧ w.frozen? ⟨g, i, none⟩ = false := by
  have hl := (List.getElem?_eq_some_iff.1 hi).1
  have hn := h.len
  refine ⟨?_, h.own.frozenAt i⟩
  rw [h.own.cellAt i (by omega), List.getElem?_map, hi]
  rfl
/-- A store of one of the heads. -/
theorem SortR.put (h : SortR base w g n cap ps) (i : Nat) {q : RowP} (hq : q ∈ ps) : SortR base (w.setCell ⟨g, i, none⟩ (headV q)) g n cap (ps.set i q) := by
  refine ⟨?_, ?_, ?_⟩
  · have := (h.own.stored i (headV q)).1
    rwa [List.map_set]
  · intro p hp
    rw [World.size_setCell]
    rcases List.mem_or_eq_of_mem_set hp with hp | rfl
    · exact SlAt.set (h.each p hp) (p := ⟨g, i, none⟩) (h.fresh p hp) _
    · exact SlAt.set (h.each p hq) (p := ⟨g, i, none⟩) (h.fresh p hq) _
  · intro p hp
    rcases List.mem_or_eq_of_mem_set hp with hp | rfl
    · exact h.fresh p hp
    · exact h.fresh p hq
/-- The exchange of two neighbours, as the walk leaves it: the later one is stored first. -/
theorem SortR.swap (h : SortR base w g n cap ps) {j : Nat} {p q : RowP} (hp : ps[j]? = some p) (hq : ps[j + 1]? = some q) :
    SortR base ((w.setCell ⟨g, j + 1, none⟩ (headV p)).setCell ⟨g, j, none⟩ (headV q)) g n cap ((ps.set (j + 1) p).set j q) := by
  have h1 := h.put (j + 1) (List.mem_of_getElem? hp)
  -- q lies in the old list alone: its slice is as it was
  refine ⟨?_, ?_, ?_⟩
  · have := (h1.own.stored j (headV q)).1
    rwa [List.map_set (a := q) (l := ps.set (j + 1) p)]
  · intro x hx
    rw [World.size_setCell, World.size_setCell]
    have hx' : x ∈ ps := by
      rcases List.mem_or_eq_of_mem_set hx with hx | rfl
      · rcases List.mem_or_eq_of_mem_set hx with hx | rfl
        · exact hx
        · exact List.mem_of_getElem? hp
      · exact List.mem_of_getElem? hq
    exact SlAt.set (SlAt.set (h.each x hx') (p := ⟨g, j + 1, none⟩) (h.fresh x hx') _) (p := ⟨g, j, none⟩) (h.fresh x hx') _
  · intro x hx
    rcases List.mem_or_eq_of_mem_set hx with hx | rfl
    · exact h1.fresh x hx
    · exact h.fresh x (List.mem_of_getElem? hq)
end
theorem swap_form (l m : List RowP) (p q : RowP) : ((l ++ p :: q :: m).set (l.length + 1) p).set l.length q = l ++ q :: p :: m := by
  rw [List.set_append_right _ _ (by omega), List.set_append_right _ _ (by omega)]
  simp
/-- What Each hands on is such a state. -/
theorem EachR.sort {w wr : World} {rows : List (List ValV)} {n : Nat} {ds : List ListV} (h : EachR w rows n wr ds) (hl : ds.length = n) (hr : rows.length = n) : SortR w.heap.size wr w.heap.size n n (ds.zip rows) := by
  have hz : (ds.zip rows).map headV = doneV ds n := by
    rw [doneV_full ds n hl, listVal_flat]
    have : (ds.zip rows).map headV = ((ds.zip rows).map Prod.fst).map (fun l => Value.slice l.A l.n l.c) := by simp [headV]
    rw [this, List.map_fst_zip (by omega)]
  refine ⟨by rw [hz]; exact h.own, ?_, ?_⟩
  · intro p hp
    obtain ⟨i, hi⟩ := List.getElem?_of_mem hp
    have h2 := List.getElem?_zip_eq_some.1 hi
    exact h.each i p.1 p.2 h2.1 h2.2
  · intro p hp
    exact h.fresh p.1 (List.of_mem_zip hp).1
end Go.Proofs.YtobepbpiagclnaaDoor
