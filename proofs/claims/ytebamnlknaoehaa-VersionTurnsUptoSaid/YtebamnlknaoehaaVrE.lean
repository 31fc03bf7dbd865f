/- Contracts: a copy of a held version. -/
import Derived.Test.YtebamnlknaoehaaVrD
namespace Go.Proofs.Ytebamnlknaoehaa
set_option linter.unusedVariables false
open Go.ChangeShapes Go.WideShapes Go.ChangeAt Go.RowKit

structure HeldV where
  a : Int
  b : Int
  c : Int
  A : Option Addr
  n : Nat
  k : Nat
  pg : Int
  sl : Int
def heldCells (h : HeldV) : List Value := [.int .i64 h.a, .int .i64 h.b, .int .i64 h.c, .slice h.A h.n h.k, .int .i64 h.pg, .int .i64 h.sl]
def heldAgg (h : HeldV) : Value := .agg #[.int .i64 h.a, .int .i64 h.b, .int .i64 h.c, .slice h.A h.n h.k, .int .i64 h.pg, .int .i64 h.sl]
theorem heldCells_len (h : HeldV) : (heldCells h).length = 6 := rfl
theorem held_info : (Try.prog.info? 40).map (fun i => (i.zero, i.size, i.bytes)) = some (some (.agg #[.int .i64 0, .int .i64 0, .int .i64 0, .slice none 0 0, .int .i64 0, .int .i64 0]), 6, 64) := by kernel_rfl
/-- A held version in a block of its own. -/
def HeldBox (w : World) (g : Nat) (h : HeldV) : Prop := w.heap[g]? = some (.cells #[.int .i64 h.a, .int .i64 h.b, .int .i64 h.c, .slice h.A h.n h.k, .int .i64 h.pg, .int .i64 h.sl] 40 (0, 0))
theorem hb_new (w : World) (h : HeldV) : HeldBox (w.alloc (.cells #[.int .i64 h.a, .int .i64 h.b, .int .i64 h.c, .slice h.A h.n h.k, .int .i64 h.pg, .int .i64 h.sl] 40)) w.heap.size h := heap_alloc_new w _
theorem HeldBox.kept {w w' : World} {g : Nat} {h : HeldV} (hx : HeldBox w g h) (hb : Below w.heap.size w w') : HeldBox w' g h := (hb.block g (Array.getElem?_eq_some_iff.1 hx).1).trans hx
theorem HeldBox.all {w : World} {g : Nat} {h : HeldV} (hx : HeldBox w g h) : (w.cell? ⟨g, 0, none⟩ = some (.int .i64 h.a) ∧ w.cell? ⟨g, 1, none⟩ = some (.int .i64 h.b) ∧ w.cell? ⟨g, 2, none⟩ = some (.int .i64 h.c) ∧ w.cell? ⟨g, 3, none⟩ = some (.slice h.A h.n h.k) ∧ w.cell? ⟨g, 4, none⟩ = some (.int .i64 h.pg) ∧ w.cell? ⟨g, 5, none⟩ = some (.int .i64 h.sl)) ∧ (w.frozen? ⟨g, 0, none⟩ = false ∧ w.frozen? ⟨g, 1, none⟩ = false ∧ w.frozen? ⟨g, 2, none⟩ = false ∧ w.frozen? ⟨g, 3, none⟩ = false ∧ w.frozen? ⟨g, 4, none⟩ = false ∧ w.frozen? ⟨g, 5, none⟩ = false) :=
  ⟨⟨Lib.cell_of_heap hx 0, Lib.cell_of_heap hx 1, Lib.cell_of_heap hx 2, Lib.cell_of_heap hx 3, Lib.cell_of_heap hx 4, Lib.cell_of_heap hx 5⟩, ⟨Lib.frozen_of_heap hx 0, Lib.frozen_of_heap hx 1, Lib.frozen_of_heap hx 2, Lib.frozen_of_heap hx 3, Lib.frozen_of_heap hx 4, Lib.frozen_of_heap hx 5⟩⟩
def set6 (w : World) (b : Nat) (x0 x1 x2 x3 x4 x5 : Value) : World := (((((w.setCell ⟨b, 0, none⟩ x0).setCell ⟨b, 1, none⟩ x1).setCell ⟨b, 2, none⟩ x2).setCell ⟨b, 3, none⟩ x3).setCell ⟨b, 4, none⟩ x4).setCell ⟨b, 5, none⟩ x5
theorem HeldBox.set6 {w : World} {g : Nat} {h : HeldV} (hx : HeldBox w g h) (h2 : HeldV) : HeldBox (set6 w g (.int .i64 h2.a) (.int .i64 h2.b) (.int .i64 h2.c) (.slice h2.A h2.n h2.k) (.int .i64 h2.pg) (.int .i64 h2.sl)) g h2 := by
  unfold HeldBox Go.Proofs.Ytebamnlknaoehaa.set6 at *
  simp [World.setCell, Array.getElem?_modify, hx]
theorem HeldBox.other {w : World} {g : Nat} {h : HeldV} (hx : HeldBox w g h) {p : Addr} (hne : p.block ≠ g) (v : Value) : HeldBox (w.setCell p v) g h := by
  unfold HeldBox
  rw [Below.heap_setCell _ _ _ _ (fun e => hne e.symm)]
  exact hx
theorem below_set6 {B b : Nat} {w w1 : World} (h : Below B w w1) (hb : B ≤ b) (x0 x1 x2 x3 x4 x5 : Value) : Below B w (set6 w1 b x0 x1 x2 x3 x4 x5) :=
  (((((h.setCell (p := ⟨b, 0, none⟩) hb x0).setCell (p := ⟨b, 1, none⟩) hb x1).setCell (p := ⟨b, 2, none⟩) hb x2).setCell (p := ⟨b, 3, none⟩) hb x3).setCell (p := ⟨b, 4, none⟩) hb x4).setCell (p := ⟨b, 5, none⟩) hb x5
theorem row_set1 {w : World} {A : Option Addr} {n k : Nat} {r : List ValV} (h : RowAt w w.heap.size A n k r) (p : Addr) (hne : FreshA (p.block + 1) A) (x : Value) : RowAt (w.setCell p x) (w.setCell p x).heap.size A n k r := by
  rw [World.size_setCell]
  exact SlAt.set h hne x
theorem row_set6 {w : World} {A : Option Addr} {n k b : Nat} {r : List ValV} (h : RowAt w w.heap.size A n k r) (hne : FreshA (b + 1) A) (x0 x1 x2 x3 x4 x5 : Value) : RowAt (set6 w b x0 x1 x2 x3 x4 x5) (set6 w b x0 x1 x2 x3 x4 x5).heap.size A n k r :=
  row_set1 (row_set1 (row_set1 (row_set1 (row_set1 (row_set1 h ⟨b, 0, none⟩ hne x0) ⟨b, 1, none⟩ hne x1) ⟨b, 2, none⟩ hne x2) ⟨b, 3, none⟩ hne x3) ⟨b, 4, none⟩ hne x4) ⟨b, 5, none⟩ hne x5
theorem end_held {f : Func} {p : Tmp} (hf : f.results = #[.cell p 40]) {a : Act} {w : World} {b : Nat} {h : HeldV} {Q : Ending → World → Prop} (hp : a.tmps.getD p undef = .pointer (some ⟨b, 0, none⟩)) (hd : a.defers = []) (hx : HeldBox w b h) (hq : Q (.returned (heldAgg h)) w) : bodyPost Try.prog f Q .ret a w :=
  bodyPost_ret (v := heldAgg h) (results_cell_row hf _ _ b 40 _ (0, 0) _ hp hx Try.underlying40 rfl (by kernel_rfl)) hd hq
def zeroH : HeldV := ⟨0, 0, 0, none, 0, 0, 0, 0⟩
theorem held_c (h : HeldV) (r : List ValV) (w : World) (hr : RowAt w w.heap.size h.A h.n h.k r) (hn : h.n ≤ 1048576) :
    Calls Try.prog 33 #[heldAgg h] w fun e w' => ∃ A k, e = .returned (heldAgg { h with A := A, n := r.length, k := k }) ∧ RowAt w' w'.heap.size A r.length k r ∧ Below w.heap.size w w' ∧ FreshA w.heap.size A := by
  have QR := hide (fun (W : World) (hW : Below w.heap.size w W) => row_c h.A h.n h.k r W (hr.kept hW) hn)
  clear hr
  obtain ⟨a, b, c, A, n, k, pg, sl⟩ := h
  simp only at QR
  unfold heldAgg
  go_enter Try.func33, Try.ntmps33
  go_wp2_with fail
  have hbb : Below w.heap.size w ((w.alloc (.cells #[.int .i64 a, .int .i64 b, .int .i64 c, .slice A n k, .int .i64 pg, .int .i64 sl] 40)).alloc (.cells #[.int .i64 0, .int .i64 0, .int .i64 0, .slice none 0 0, .int .i64 0, .int .i64 0] 40)) := Bel.alloc (Bel.one w _) _
  have hp : HeldBox ((w.alloc (.cells #[.int .i64 a, .int .i64 b, .int .i64 c, .slice A n k, .int .i64 pg, .int .i64 sl] 40)).alloc (.cells #[.int .i64 0, .int .i64 0, .int .i64 0, .slice none 0 0, .int .i64 0, .int .i64 0] 40)) w.heap.size ⟨a, b, c, A, n, k, pg, sl⟩ := (hb_new w ⟨a, b, c, A, n, k, pg, sl⟩).kept (Bel.one _ _)
  have hq : HeldBox ((w.alloc (.cells #[.int .i64 a, .int .i64 b, .int .i64 c, .slice A n k, .int .i64 pg, .int .i64 sl] 40)).alloc (.cells #[.int .i64 0, .int .i64 0, .int .i64 0, .slice none 0 0, .int .i64 0, .int .i64 0] 40)) (w.heap.size + 1) zeroH := by
    have := hb_new (w.alloc (.cells #[.int .i64 a, .int .i64 b, .int .i64 c, .slice A n k, .int .i64 pg, .int .i64 sl] 40)) zeroH
    rw [World.size_alloc] at this
    exact this
  have HP := hide hp
  have HQ := hide hq
  have HBB := hide hbb
  clear hp hq hbb
  refine (QR.out _ HBB.out).mono ?_
  rintro e w1 ⟨A2, k2, rfl, hr2, hb, hf⟩
  have HR := hide hr2
  have HF := hide hf
  have HP1 := hide (HP.out.kept hb)
  have HQ1 := hide (HQ.out.kept hb)
  have HB1 := hide (Bel.then HBB.out hb)
  clear hr2 hf hb HP HQ HBB QR
  simp only [World.size_alloc] at HF
  obtain ⟨⟨k0, k1, k2', k3, k4, k5⟩, ⟨y0, y1, y2, y3, y4, y5⟩⟩ := HP1.out.all
  obtain ⟨⟨l0, l1, l2, l3, l4, l5⟩, ⟨z0, z1, z2, z3, z4, z5⟩⟩ := HQ1.out.all
  simp only [zeroH] at k0 k1 k2' k3 k4 k5 l0 l1 l2 l3 l4 l5
  go_wp2_with fail
  have HX := hide ((HQ1.out.other (p := ⟨w.heap.size, 3, none⟩) (by simp) (.slice A2 r.length k2)).set6 ⟨a, b, c, A2, r.length, k2, pg, sl⟩)
  have HW := hide (row_set6 (b := w.heap.size + 1) (row_set1 HR.out ⟨w.heap.size, 3, none⟩ (HF.out.mono (show w.heap.size + 1 ≤ w.heap.size + 1 + 1 by omega)) (.slice A2 r.length k2)) (HF.out.mono (by omega)) (.int .i64 a) (.int .i64 b) (.int .i64 c) (.slice A2 r.length k2) (.int .i64 pg) (.int .i64 sl))
  have HB := hide (below_set6 (b := w.heap.size + 1) (HB1.out.setCell (p := ⟨w.heap.size, 3, none⟩) (Nat.le_refl _) (.slice A2 r.length k2)) (by omega) (.int .i64 a) (.int .i64 b) (.int .i64 c) (.slice A2 r.length k2) (.int .i64 pg) (.int .i64 sl))
  exact end_held Try.results33 rfl rfl HX.out ⟨A2, k2, rfl, HW.out, HB.out, HF.out.mono (by omega)⟩
end Go.Proofs.Ytebamnlknaoehaa
