/- More words of my own on rows of the call's own. -/
import Derived.Test.YtnkfimpfnofhnaaDoorLib
namespace Go.Proofs.YtnkfimpfnofhnaaDoor
set_option linter.unusedVariables false
open Go.ChangeShapes Go.WideShapes Go.ChangeAt Go.RowKit

theorem Below.drewN' {B : Nat} {a w : World} (h : Below B a w) (n : Nat) : Below B a (w.drewN n) := ⟨h.os, h.tape, h.output, h.size, h.block⟩
theorem own_some {w : World} {base : Nat} {e : TypeId} {size n : Nat} {v : Value} {xs : List Value} (hs : w.ownsRow base e size v n xs) (hn : 0 < n) : ∃ g cap, v = .slice (some ⟨g, 0, none⟩) n cap ∧ n ≤ cap ∧ base ≤ g := by
  rcases hs.2 with ⟨hv, hz⟩ | ⟨g, cap, cur, hv, hb, hh, hnc, hm, hcs, ht⟩
  · omega
  · exact ⟨g, cap, hv, hnc, hb⟩
theorem own_ints {w : World} {base : Nat} {e : TypeId} {n c : Nat} {A : Option Addr} {zs : List Int} (hs : w.ownsRow base e 1 (.slice A n c) n (zs.map (.int .i64))) : Ints w w.heap.size A n zs :=
  ⟨by have := hs.1; simpa using this, Cells.of_own hs⟩
theorem own_cell {w : World} {base : Nat} {e : TypeId} {n c g : Nat} {xs : List Value} (hs : w.ownsRow base e 1 (.slice (some ⟨g, 0, none⟩) n c) n xs) {k : Nat} {u : Value} (hk : xs[k]? = some u) : w.cell? ⟨g, k, none⟩ = some u := by
  have := hs.cells (g := g) rfl k u hk
  rwa [add_off, Nat.zero_add] at this
end Go.Proofs.YtnkfimpfnofhnaaDoor
