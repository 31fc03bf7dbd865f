/- A block of known cells, each a function of its place: make, load, store. -/
import Derived.Test.YtlkeghfdpbfhbaaLib2
import Derived.Deep.OwnRows
namespace Go.Proofs.Ytlkeghfdpbfhbaa
set_option linter.unusedVariables false
open Go.ChangeShapes Go.WideShapes Go.ChangeAt Go.RowKit

def tab (f : Nat → Value) (n : Nat) : Array Value := (List.map f (List.range n)).toArray
theorem tab_at (f : Nat → Value) {n i : Nat} (h : i < n) : (tab f n)[i]? = some (f i) := by simp [tab, h]
theorem tab_set (f : Nat → Value) (n i : Nat) (u : Value) : (tab f n).setIfInBounds i u = tab (fun j => if j = i then u else f j) n := by
  unfold tab
  rw [List.setIfInBounds_toArray]
  congr 1
  apply List.ext_getElem?
  intro j
  rw [List.getElem?_set, List.getElem?_map, List.getElem?_map, List.length_map, List.length_range]
  by_cases hj : j < n
  · rw [List.getElem?_range hj]
    by_cases hi : i = j
    · subst hi; simp [hj]
    · rw [if_neg hi]
      have : j ≠ i := fun e => hi e.symm
      simp [this]
  · have : (List.range n)[j]? = none := by rw [List.getElem?_eq_none]; simp; omega
    rw [this]
    by_cases hi : i = j
    · subst hi; simp [hj]
    · simp [hi]
theorem tab_congr {f g : Nat → Value} {n : Nat} (h : ∀ i, i < n → f i = g i) : tab f n = tab g n := by
  unfold tab
  congr 1
  exact List.map_congr_left fun i hi => h i (List.mem_range.1 hi)
/-- Block b holds just these cells. -/
def TabAt (w : World) (b : Nat) (t : TypeId) (f : Nat → Value) (n : Nat) : Prop := w.heap[b]? = some (.cells (tab f n) t (0, 0))
section
variable {w w' : World} {b n : Nat} {t : TypeId} {f : Nat → Value}
theorem TabAt.lt (h : TabAt w b t f n) : b < w.heap.size := (Array.getElem?_eq_some_iff.1 h).1
theorem TabAt.cell (h : TabAt w b t f n) {i : Nat} (hi : i < n) : w.cell? ⟨b, i, none⟩ = some (f i) := (cell_of_row w b i _ t (0, 0) h).trans (tab_at f hi)
theorem TabAt.unfrozen (h : TabAt w b t f n) (i : Nat) : w.frozen? ⟨b, i, none⟩ = false := by
  unfold TabAt at h
  simp [World.frozen?, h]
theorem TabAt.drew (h : TabAt w b t f n) (m : Nat) : TabAt (w.drewN m) b t f n := h
theorem TabAt.set (h : TabAt w b t f n) (i : Nat) (u : Value) : TabAt (w.setCell ⟨b, i, none⟩ u) b t (fun j => if j = i then u else f j) n := by
  unfold TabAt at h ⊢
  rw [← tab_set]
  simp [World.setCell, Array.getElem?_modify, h]
theorem TabAt.far (h : TabAt w b t f n) {p : Addr} (hp : b ≠ p.block) (u : Value) : TabAt (w.setCell p u) b t f n := (Below.heap_setCell w p u b hp).trans h
theorem TabAt.kept (h : TabAt w b t f n) (hb : Below w.heap.size w w') : TabAt w' b t f n := (hb.block b h.lt).trans h
theorem TabAt.congr {g : Nat → Value} (h : TabAt w b t f n) (hf : ∀ i, i < n → f i = g i) : TabAt w b t g n := by
  unfold TabAt at h ⊢
  rw [← tab_congr hf]
  exact h
end
theorem wpList_make_tab {P : Program} (w : World) {ops : Array Oper} {rest : List Oper} {o : Oper} {a : Act} {Q : Exit → Act → World → Prop}
    (hg : o.guard = none) (l c : Operand) (t : TypeId) (hop : o.op = Op.makeSlice t l c)
    (e : TypeId) (z : Value) (bytes : Nat) (ht : P.underlying t = some (.slice e)) (hinfo : (P.info? e).map (fun i => (i.zero, i.size, i.bytes)) = some (some z, 1, bytes)) (hz1 : z.cells = #[z])
    (kl kc : IntKind) (C D : Int) (n : Nat) (hl : a.eval l = .int kl C) (hc : a.eval c = .int kc D) (hC : C = (n : Int)) (hD : D = (n : Int)) (b2 : bytes * n ≤ 281474976710656) (b3 : n ≤ 9223372036854775807)
    (hK : ∀ w' g, w.heap.size = g → TabAt w' g e (fun _ => z) n → Below w.heap.size w w' → w'.heap.size = g + 1 → wpList P ops Q rest (a.put o.dst (.slice (some ⟨g, 0, none⟩) n n)) w') :
    wpList P ops Q (o :: rest) a w := by
  refine wpList_plain hg fun K hK' => ?_
  have hrun := run_make_row' (P := P) t e z bytes ht hinfo hz1 kl kc n b2 b3 w
  have e1 : madeCells #[z] n = tab (fun _ => z) n := by
    apply Array.ext'
    rw [toList_madeCells_one, tab, List.map_const', List.length_range]
  rw [e1] at hrun
  subst hC hD
  unfold Oper.wp
  simp [execOp, hop, hl, hc, hrun, Result.andThen]
  exact hK' _ _ (hK _ _ rfl (heap_alloc_new w _) (Bel.one w _) (World.size_alloc w _))
end Go.Proofs.Ytlkeghfdpbfhbaa
