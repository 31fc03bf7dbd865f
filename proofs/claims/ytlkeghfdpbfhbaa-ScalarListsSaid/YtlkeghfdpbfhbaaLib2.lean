/- More words of my own on rows of the call's own. -/
import Derived.Test.YtlkeghfdpbfhbaaLib
namespace Go.Proofs.Ytlkeghfdpbfhbaa
set_option linter.unusedVariables false
open Go.ChangeShapes Go.WideShapes Go.ChangeAt Go.RowKit

theorem Below.drewN' {B : Nat} {a w : World} (h : Below B a w) (n : Nat) : Below B a (w.drewN n) := ⟨h.os, h.tape, h.output, h.size, h.block⟩
theorem own_some {w : World} {base : Nat} {e : TypeId} {size n : Nat} {v : Value} {xs : List Value} (hs : w.ownsRow base e size v n xs) (hn : 0 < n) : ∃ g cap, v = .slice (some ⟨g, 0, none⟩) n cap ∧ n ≤ cap ∧ base ≤ g := by
  rcases hs.2 with ⟨hv, hz⟩ | ⟨g, cap, cur, hv, hb, hh, hnc, hm, hcs, ht⟩
  · omega
  · exact ⟨g, cap, hv, hnc, hb⟩
theorem own_ints {w : World} {base : Nat} {e : TypeId} {n c : Nat} {A : Option Addr} {zs : List Int} (hs : w.ownsRow base e 1 (.slice A n c) n (zs.map (.int .i64))) : Ints w w.heap.size A n zs :=
  ⟨by have := hs.1; simpa using this, Cells.of_own hs⟩
theorem own_cell {w : World} {base : Nat} {e : TypeId} {n c g : Nat} {xs : List Value} (hs : w.ownsRow base e 1 (.slice (some ⟨g, 0, none⟩) n c) n xs) {k : Nat} {u : Value} (hk : xs[k]? = some u) : w.cell? ⟨g, k, none⟩ = some u := by
  have := hs.cells (g := g) rfl k u hk
  rwa [add_off, Nat.zero_add] at this
/-- What is owned stays owned behind a call that leaves all elder blocks alone. -/
theorem own_below {a b : World} {base : Nat} {e : TypeId} {size n : Nat} {v : Value} {xs : List Value} (h : a.ownsRow base e size v n xs) (hb : Below a.heap.size a b) : b.ownsRow base e size v n xs := by
  refine ⟨h.1, ?_⟩
  rcases h.2 with hn | ⟨g, cap, cur, rfl, h1, hg, rest⟩
  · exact .inl hn
  · refine .inr ⟨g, cap, cur, rfl, h1, ?_, rest⟩
    rw [hb.block g (Array.getElem?_eq_some_iff.1 hg).1]
    exact hg
/-- The second of two new blocks. -/
theorem cells_lit2 (w : World) (o : Obj) (cs : Array Value) (t : TypeId) : Cells ((w.alloc o).alloc (.cells cs t)) (w.heap.size + 2) (some ⟨w.heap.size + 1, 0, none⟩) cs.toList := by
  have h := cells_lit (w.alloc o) cs t
  rw [World.size_alloc] at h
  exact h
/-- All elder cells and marks read as before: the walk uses the two rules by itself. -/
theorem bcell {W w1 : World} (hb : Below W.heap.size W w1) : (∀ b o, b < W.heap.size → w1.cell? ⟨b, o, none⟩ = W.cell? ⟨b, o, none⟩) ∧ (∀ b o, b < W.heap.size → w1.frozen? ⟨b, o, none⟩ = W.frozen? ⟨b, o, none⟩) :=
  ⟨fun b o h => hb.cell (p := ⟨b, o, none⟩) h, fun b o h => hb.frozen (p := ⟨b, o, none⟩) h⟩
end Go.Proofs.Ytlkeghfdpbfhbaa
