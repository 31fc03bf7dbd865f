/- A slice of slices that is there. -/
import Derived.Test.YtahdkfenpflahaaSl
namespace Go.Proofs.Ytahdkfenpflahaa
set_option linter.unusedVariables false
open Go.ChangeShapes Go.WideShapes Go.ChangeAt Go.RowKit

structure ListV where
  A : Option Addr
  n : Nat
  c : Nat
def listVal (l : ListV) : List Value := [.slice l.A l.n l.c]
theorem listVal_len (l : ListV) : (listVal l).length = 1 := rfl
theorem listVal_flat (ls : List ListV) : (ls.map listVal).flatten = ls.map fun l => .slice l.A l.n l.c := by
  induction ls with
  | nil => rfl
  | cons l r ih => rw [List.map_cons, List.flatten_cons, ih]; rfl
structure NestAt {α : Type} (f : α → List Value) (k : Nat) (w : World) (B : Nat) (A : Option Addr) (n c : Nat) (rows : List (List α)) : Prop where
  len : rows.length = n
  cap : n ≤ c
  max : c ≤ maxLen
  nil : A = none → n = 0
  each : ∃ ls : List ListV, ls.length = n ∧ Recs w B A 1 (ls.map listVal) ∧ ∀ (i : Nat) m r, ls[i]? = some m → rows[i]? = some r → SlAt f k w B m.A m.n m.c r
section
variable {α : Type} {f : α → List Value} {k : Nat} {w w' : World} {B B' n c : Nat} {A : Option Addr} {rows : List (List α)}
theorem NestAt.below (h : NestAt f k w B A n c rows) (hb : Below B w w') : NestAt f k w' B A n c rows :=
  let ⟨ls, h1, h2, h3⟩ := h.each
  ⟨h.len, h.cap, h.max, h.nil, ls, h1, h2.below hb, fun i m cs g1 g2 => (h3 i m cs g1 g2).below hb⟩
theorem NestAt.more (h : NestAt f k w B A n c rows) (hb : B ≤ B') : NestAt f k w B' A n c rows :=
  let ⟨ls, h1, h2, h3⟩ := h.each
  ⟨h.len, h.cap, h.max, h.nil, ls, h1, h2.more hb, fun i m cs g1 g2 => (h3 i m cs g1 g2).more hb⟩
theorem NestAt.kept (h : NestAt f k w w.heap.size A n c rows) (hb : Below w.heap.size w w') : NestAt f k w' w'.heap.size A n c rows := (h.below hb).more hb.size
theorem NestAt.empty (f : α → List Value) (k : Nat) (w : World) (B : Nat) : NestAt f k w B none 0 0 [] := ⟨rfl, Nat.le_refl _, Nat.zero_le _, fun _ => rfl, [], rfl, ⟨by simp, Cells.none _ _ _⟩, by simp⟩
theorem NestAt.one (h : NestAt f k w B A n c rows) {i : Nat} (hi : i < n) :
    ∃ b off A1 n1 c1 r, A = some ⟨b, off, none⟩ ∧ b < B ∧ rows[i]? = some r ∧ w.cell? ⟨b, off + i, none⟩ = some (.slice A1 n1 c1) ∧ SlAt f k w B A1 n1 c1 r := by
  have hl2 := h.len
  obtain ⟨ls, hl, hr, hea⟩ := h.each
  obtain ⟨b, off, e, hlt, hc⟩ := hr.at (by omega) (by rw [List.length_map]; omega)
  have h1 : ls[i]? = some (ls[i]'(by omega)) := List.getElem?_eq_getElem (by omega)
  have h2 : rows[i]? = some (rows[i]'(by omega)) := List.getElem?_eq_getElem (by omega)
  have hx : (ls.map listVal)[i]? = some (listVal (ls[i]'(by omega))) := by rw [List.getElem?_map, h1]; rfl
  have := hc i _ 0 _ hx rfl
  rw [Nat.mul_one, Nat.add_zero] at this
  exact ⟨b, off, _, _, _, _, e, hlt, h2, this, hea i _ _ h1 h2⟩
/-- A row of the call's own that holds slices is a slice of slices. -/
theorem nest_of_own {base : Nat} {e : TypeId} {v : Value} {ls : List ListV} (h : w.ownsRow base e 1 v ls.length (ls.map listVal).flatten) (hl : rows.length = ls.length)
    (he : ∀ (i : Nat) m r, ls[i]? = some m → rows[i]? = some r → SlAt f k w w.heap.size m.A m.n m.c r) : ∃ A c, v = .slice A ls.length c ∧ NestAt f k w w.heap.size A ls.length c rows := by
  obtain ⟨A, c, rfl, hnc, hA, hC⟩ := own_form h
  exact ⟨A, c, rfl, hl, hnc, own_max h, hA, ls, rfl, ⟨by intro xs hx; obtain ⟨m, _, rfl⟩ := List.mem_map.1 hx; rfl, hC⟩, he⟩
theorem SlAt.set {l : List α} (h : SlAt f k w B A n c l) {p : Addr} (hne : FreshA (p.block + 1) A) (u : Value) : SlAt f k (w.setCell p u) B A n c l := ⟨h.len, h.cap, h.max, h.nil, ⟨h.recs.1, h.recs.2.set hne u⟩⟩
end
end Go.Proofs.Ytahdkfenpflahaa
