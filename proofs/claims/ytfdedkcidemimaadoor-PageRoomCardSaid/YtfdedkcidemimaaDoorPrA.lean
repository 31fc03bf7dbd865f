/- Pages of the reference: the box. -/
import Derived.Test.YtfdedkcidemimaaDoorPnD
namespace Go.Proofs.YtfdedkcidemimaaDoor
set_option linter.unusedVariables false
set_option linter.unusedSimpArgs false
open Go.ChangeShapes Go.WideShapes Go.ChangeAt Go.RowKit

/-- A content in a block of its own. -/
def PBx (w : World) (g : Nat) (x y z : Int) (v : Value) : Prop := w.heap[g]? = some (.cells #[.int .i64 x, .int .i64 y, .int .i64 z, v] 46 (0, 0))
section
variable {w w' : World} {g : Nat} {v : Value} {x y z : Int}
theorem pbx_new (w : World) (x y z : Int) (v : Value) : PBx (w.alloc (.cells #[.int .i64 x, .int .i64 y, .int .i64 z, v] 46)) w.heap.size x y z v := heap_alloc_new w _
theorem PBx.lt (h : PBx w g x y z v) : g < w.heap.size := (Array.getElem?_eq_some_iff.1 h).1
theorem PBx.kept (h : PBx w g x y z v) (hb : Below w.heap.size w w') : PBx w' g x y z v := (hb.block g h.lt).trans h
theorem PBx.alloc (h : PBx w g x y z v) (o : Obj) : PBx (w.alloc o) g x y z v := h.kept (Bel.one w o)
theorem PBx.far (h : PBx w g x y z v) {p : Addr} (hp : g ≠ p.block) (u : Value) : PBx (w.setCell p u) g x y z v := (Below.heap_setCell w p u g hp).trans h
theorem PBx.grown {row : Option Nat} (h : PBx w g x y z v) (hb : w.grownBy w' row) (hg : some g ≠ row) : PBx w' g x y z v := (hb.block g h.lt hg).trans h
theorem PBx.cells (h : PBx w g x y z v) : w.cell? ⟨g, 0, none⟩ = some (.int .i64 x) ∧ w.cell? ⟨g, 1, none⟩ = some (.int .i64 y) ∧ w.cell? ⟨g, 2, none⟩ = some (.int .i64 z) ∧ w.cell? ⟨g, 3, none⟩ = some v ∧ w.frozen? ⟨g, 0, none⟩ = false ∧ w.frozen? ⟨g, 1, none⟩ = false ∧ w.frozen? ⟨g, 2, none⟩ = false ∧ w.frozen? ⟨g, 3, none⟩ = false := by
  refine ⟨cell_of_row w g 0 _ _ (0, 0) h, cell_of_row w g 1 _ _ (0, 0) h, cell_of_row w g 2 _ _ (0, 0) h, cell_of_row w g 3 _ _ (0, 0) h, ?_, ?_, ?_, ?_⟩
  all_goals
    unfold PBx at h
    simp [World.frozen?, h]
theorem PBx.set3 (h : PBx w g x y z v) (u : Value) : PBx (w.setCell ⟨g, 3, none⟩ u) g x y z u := by
  unfold PBx at *
  simp [World.setCell, Array.getElem?_modify, h]
theorem PBx.set4 (h : PBx w g x y z v) (x' y' z' : Int) (u : Value) : PBx ((((w.setCell ⟨g, 0, none⟩ (.int .i64 x')).setCell ⟨g, 1, none⟩ (.int .i64 y')).setCell ⟨g, 2, none⟩ (.int .i64 z')).setCell ⟨g, 3, none⟩ u) g x' y' z' u := by
  unfold PBx at *
  simp [World.setCell, Array.getElem?_modify, h]
end
theorem pbelow_set4 {B b : Nat} {w w1 : World} (h : Below B w w1) (hb : B ≤ b) (x y z u : Value) : Below B w ((((w1.setCell ⟨b, 0, none⟩ x).setCell ⟨b, 1, none⟩ y).setCell ⟨b, 2, none⟩ z).setCell ⟨b, 3, none⟩ u) :=
  (((h.setCell (p := ⟨b, 0, none⟩) hb x).setCell (p := ⟨b, 1, none⟩) hb y).setCell (p := ⟨b, 2, none⟩) hb z).setCell (p := ⟨b, 3, none⟩) hb u
theorem PBx.far4 {w : World} {g b : Nat} {v : Value} {x y z : Int} (h : PBx w g x y z v) (hg : g ≠ b) (p q r u : Value) : PBx ((((w.setCell ⟨b, 0, none⟩ p).setCell ⟨b, 1, none⟩ q).setCell ⟨b, 2, none⟩ r).setCell ⟨b, 3, none⟩ u) g x y z v :=
  (((h.far (p := ⟨b, 0, none⟩) hg p).far (p := ⟨b, 1, none⟩) hg q).far (p := ⟨b, 2, none⟩) hg r).far (p := ⟨b, 3, none⟩) hg u
theorem end_pt {f : Func} {p : Tmp} (hf : f.results = #[.cell p 46]) {a : Act} {w : World} {b : Nat} {v : Value} {x y z : Int} {Q : Ending → World → Prop} (hp : a.tmps.getD p undef = .pointer (some ⟨b, 0, none⟩)) (hd : a.defers = []) (hx : PBx w b x y z v) (hq : Q (.returned (.agg #[.int .i64 x, .int .i64 y, .int .i64 z, v])) w) : bodyPost Tryd.prog f Q .ret a w :=
  bodyPost_ret (v := .agg #[.int .i64 x, .int .i64 y, .int .i64 z, v]) (results_cell_row hf _ _ b 46 _ (0, 0) _ hp hx Tryd.underlying46 rfl (by kernel_rfl)) hd hq
theorem OwnS.pfar {w : World} {B : Nat} {v : Value} {l : List ByteArray} (h : OwnS w B v l) {p : Addr} {x y z : Int} {u0 : Value} (hx : PBx w p.block x y z u0) (u : Value) : OwnS (w.setCell p u) B v l := by
  refine ownsRow_setCell_other h ?_ u
  rcases h.2 with ⟨rfl, _⟩ | ⟨g, cap, cur, rfl, _, hh, _⟩
  · simp [Value.ownBlock]
  · intro he
    have : g = p.block := by simpa [Value.ownBlock] using he
    subst this
    unfold PBx at hx
    rw [hx] at hh
    injection hh with hh
    injection hh with _ ht
    exact absurd ht (by decide)
theorem OwnS.pfar4 {w : World} {B b : Nat} {v : Value} {l : List ByteArray} {x y z : Int} {u0 : Value} (h : OwnS w B v l) (hx : PBx w b x y z u0) (x' y' z' : Int) (u : Value) : OwnS ((((w.setCell ⟨b, 0, none⟩ (.int .i64 x')).setCell ⟨b, 1, none⟩ (.int .i64 y')).setCell ⟨b, 2, none⟩ (.int .i64 z')).setCell ⟨b, 3, none⟩ u) B v l := by
  have e : ∀ {W : World}, OwnS W B v l → (v.ownBlock ≠ some b) → ∀ (i : Nat) (c : Value), OwnS (W.setCell ⟨b, i, none⟩ c) B v l := fun h hne i c => ownsRow_setCell_other h hne c
  have hne : v.ownBlock ≠ some b := by
    rcases h.2 with ⟨rfl, _⟩ | ⟨g, cap, cur, rfl, _, hh, _⟩
    · simp [Value.ownBlock]
    · intro he
      have : g = b := by simpa [Value.ownBlock] using he
      subst this
      unfold PBx at hx
      rw [hx] at hh
      injection hh with hh
      injection hh with _ ht
      exact absurd ht (by decide)
  exact e (e (e (e h hne 0 _) hne 1 _) hne 2 _) hne 3 _
theorem pbox_row_ne {w : World} {B q gr n c : Nat} {l : List ByteArray} {v : Value} {x y z : Int} (ho : OwnS w B (.slice (some ⟨gr, 0, none⟩) n c) l) (hx : PBx w q x y z v) : q ≠ gr := by
  intro e
  subst e
  rcases ho.2 with ⟨hv', _⟩ | ⟨g', cap, cur, hv', _, hh, _⟩
  · cases hv'
  · injection hv' with h1 _ _
    injection h1 with h1
    injection h1 with h1 _
    subst h1
    unfold PBx at hx
    rw [hx] at hh
    injection hh with hh
    injection hh with _ ht
    exact absurd ht (by decide)
/-- A content in memory of the call's own. -/
structure PtS (w : World) (gx : Nat) (c : CtV) (v : Value) (wr : World) : Prop where
  bx : PBx wr gx c.lsn c.kind c.link v
  own : OwnS wr w.heap.size v c.recs
  b1 : w.heap.size ≤ gx
  hb : Below w.heap.size w wr
section
variable {w wr w' : World} {gx : Nat} {c : CtV} {v : Value}
theorem PtS.kept (h : PtS w gx c v wr) (hb : Below wr.heap.size wr w') : PtS w gx c v w' := ⟨h.bx.kept hb, h.own.kept hb, h.b1, Bel.then h.hb hb⟩
theorem PtS.ne (h : PtS w gx c v wr) : v.ownBlock ≠ some gx := by
  rcases h.own.2 with ⟨rfl, _⟩ | ⟨g, cap, cur, rfl, _, hh, _⟩
  · simp [Value.ownBlock]
  · intro he
    have : g = gx := by simpa [Value.ownBlock] using he
    subst this
    have hx := h.bx
    unfold PBx at hx
    rw [hx] at hh
    injection hh with hh
    injection hh with _ ht
    exact absurd ht (by decide)
theorem PtS.new {w5 : World} (hown : OwnS w5 w.heap.size v c.recs) (hb : Below w.heap.size w w5) : PtS w w5.heap.size c v (w5.alloc (.cells #[.int .i64 c.lsn, .int .i64 c.kind, .int .i64 c.link, v] 46)) :=
  ⟨pbx_new _ _ _ _ _, hown.kept (Bel.one _ _), hb.size, hb.alloc hb.size _⟩
/-- Other records. -/
theorem PtS.store (h : PtS w gx c v wr) {v' : Value} {l : List ByteArray} (ho : OwnS w' w.heap.size v' l) (hg : wr.grownBy w' v.ownBlock) (hat : v'.ownBlock ≠ some gx) : PtS w gx ⟨c.lsn, c.kind, c.link, l⟩ v' (w'.setCell ⟨gx, 3, none⟩ v') := by
  have hx : PBx w' gx c.lsn c.kind c.link v := h.bx.grown hg (fun e => h.ne e.symm)
  refine ⟨hx.set3 v', ho.pfar (p := ⟨gx, 3, none⟩) hx v', h.b1, ?_⟩
  refine Below.setCell (own_grown h.hb hg ?_) (p := ⟨gx, 3, none⟩) h.b1 v'
  intro k hk
  exact (World.ownsRow.lt h.own k hk).1
theorem PtS.step (h : PtS w gx c v wr) {v' : Value} {l : List ByteArray} (ho : OwnS w' w.heap.size v' l) (hg : wr.grownBy w' v.ownBlock) (hat : v'.ownBlock = v.ownBlock ∨ v'.ownBlock = some wr.heap.size) : PBx w' gx c.lsn c.kind c.link v ∧ PtS w gx ⟨c.lsn, c.kind, c.link, l⟩ v' (w'.setCell ⟨gx, 3, none⟩ v') := by
  refine ⟨h.bx.grown hg (fun e => h.ne e.symm), h.store ho hg ?_⟩
  rcases hat with e | e
  · rw [e]; exact h.ne
  · rw [e]
    intro e2
    have := h.bx.lt
    injection e2 with e2
    omega
theorem PtS.put (h : PtS w gx c v wr) {i : Nat} (hi : i < c.recs.length) (u : ByteArray) : ∃ g n cp, v = .slice (some ⟨g, 0, none⟩) n cp ∧ i < n ∧ n = c.recs.length ∧ wr.cell? ⟨g, i, none⟩ = some (.string c.recs[i]) ∧ wr.frozen? ⟨g, i, none⟩ = false ∧ PtS w gx ⟨c.lsn, c.kind, c.link, c.recs.set i u⟩ v (wr.setCell ⟨g, i, none⟩ (.string u)) := by
  obtain ⟨g, cp, rfl, hB, hc, hf⟩ := h.own.cells i hi
  refine ⟨g, c.recs.length, cp, rfl, hi, rfl, hc, hf, ?_⟩
  refine ⟨h.bx.far (p := ⟨g, i, none⟩) (pbox_row_ne h.own h.bx) _, h.own.put hi u, h.b1, ?_⟩
  exact h.hb.setCell (p := ⟨g, i, none⟩) hB _
end
theorem PtS.sl {w wr : World} {gx n cp : Nat} {c : CtV} {A : Option Addr} (h : PtS w gx c (.slice A n cp) wr) : SlAt stC 1 wr wr.heap.size A n cp c.recs := by
  obtain ⟨A', c', e, hs⟩ := h.own.sl
  injection e with e1 e2 e3
  subst e1 e2 e3
  exact hs
end Go.Proofs.YtfdedkcidemimaaDoor
