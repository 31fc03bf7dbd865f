/- A slice that is there, of elements of k cells each, whatever they are. -/
import Derived.Test.YtlkeghfdpbfhbaaRecs
import Derived.Test.YtlkeghfdpbfhbaaLib2
namespace Go.Proofs.Ytlkeghfdpbfhbaa
set_option linter.unusedVariables false
open Go.ChangeShapes Go.WideShapes Go.ChangeAt Go.RowKit

structure SlAt {α : Type} (f : α → List Value) (k : Nat) (w : World) (B : Nat) (A : Option Addr) (n c : Nat) (l : List α) : Prop where
  len : l.length = n
  cap : n ≤ c
  max : c ≤ maxLen
  nil : A = none → n = 0
  recs : Recs w B A k (l.map f)
section
variable {α : Type} {f : α → List Value} {k : Nat} {w w' : World} {B B' n c : Nat} {A : Option Addr} {l : List α}
theorem SlAt.below (h : SlAt f k w B A n c l) (hb : Below B w w') : SlAt f k w' B A n c l := ⟨h.len, h.cap, h.max, h.nil, h.recs.below hb⟩
theorem SlAt.more (h : SlAt f k w B A n c l) (hb : B ≤ B') : SlAt f k w B' A n c l := ⟨h.len, h.cap, h.max, h.nil, h.recs.more hb⟩
theorem SlAt.kept (h : SlAt f k w w.heap.size A n c l) (hb : Below w.heap.size w w') : SlAt f k w' w'.heap.size A n c l := (h.below hb).more hb.size
theorem SlAt.empty (f : α → List Value) (k : Nat) (w : World) (B : Nat) : SlAt f k w B none 0 0 [] := ⟨rfl, Nat.le_refl _, Nat.zero_le _, fun _ => rfl, ⟨by simp, Cells.none _ _ _⟩⟩
theorem SlAt.at (h : SlAt f k w B A n c l) (hk : 0 < k) {i : Nat} (hi : i < n) : ∃ b off x, A = some ⟨b, off, none⟩ ∧ b < B ∧ l[i]? = some x ∧ ∀ j u, (f x)[j]? = some u → w.cell? ⟨b, off + (i * k + j), none⟩ = some u := by
  have hl := h.len
  obtain ⟨b, off, e, hlt, hc⟩ := h.recs.at hk (by rw [List.length_map]; omega)
  have hx : l[i]? = some (l[i]'(by omega)) := List.getElem?_eq_getElem (by omega)
  have hy : (l.map f)[i]? = some (f (l[i]'(by omega))) := by rw [List.getElem?_map, hx]; rfl
  exact ⟨b, off, _, e, hlt, hx, fun j u hu => hc i _ j u hy hu⟩
theorem own_max {base : Nat} {e : TypeId} {size : Nat} {xs : List Value} (h : w.ownsRow base e size (.slice A n c) n xs) : c ≤ maxLen := by
  rcases h.2 with ⟨hv, hz⟩ | ⟨g, cap, cur, hv, _, _, _, hm, _⟩
  · injection hv with _ _ h3
    rw [h3]
    exact Nat.zero_le _
  · injection hv with _ _ h3
    rw [h3]
    exact hm
/-- A row of the call's own is a slice that is there. -/
theorem sl_of_own {base : Nat} {e : TypeId} {v : Value} (h : w.ownsRow base e k v l.length (l.map f).flatten) (hf : ∀ x, (f x).length = k) : ∃ A c, v = .slice A l.length c ∧ SlAt f k w w.heap.size A l.length c l := by
  obtain ⟨A, c, rfl, hnc, hA, hC⟩ := own_form h
  exact ⟨A, c, rfl, rfl, hnc, own_max h, hA, ⟨by intro xs hx; obtain ⟨x, _, rfl⟩ := List.mem_map.1 hx; exact hf x, hC⟩⟩
/-- A slice that a literal makes. -/
theorem sl_lit (w : World) (cs : Array Value) (t : TypeId) {n : Nat} (hl : l.length = n) (hf : ∀ x, (f x).length = k) (hcs : cs.toList = (l.map f).flatten) (hm : n ≤ maxLen) : SlAt f k (w.alloc (.cells cs t)) (w.alloc (.cells cs t)).heap.size (some ⟨w.heap.size, 0, none⟩) n n l := by
  refine ⟨hl, Nat.le_refl _, hm, (by simp), ⟨by intro xs hx; obtain ⟨x, _, rfl⟩ := List.mem_map.1 hx; exact hf x, ?_⟩⟩
  rw [← hcs, World.size_alloc]
  exact cells_lit w cs t
end
theorem take_at {α : Type} {l : List α} {j : Nat} {c : α} (h : l[j]? = some c) : l.take (j + 1) = l.take j ++ [c] := by
  obtain ⟨hl, rfl⟩ := List.getElem?_eq_some_iff.1 h
  exact List.take_succ_eq_append_getElem hl
theorem drop_at {α : Type} {l : List α} {j : Nat} {c : α} (h : l[j]? = some c) : l.drop j = c :: l.drop (j + 1) := by
  obtain ⟨hl, rfl⟩ := List.getElem?_eq_some_iff.1 h
  exact List.drop_eq_getElem_cons hl
end Go.Proofs.Ytlkeghfdpbfhbaa
