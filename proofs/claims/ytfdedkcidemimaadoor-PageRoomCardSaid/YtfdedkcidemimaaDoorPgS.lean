/- Pages: strings in memory, the box of a content. -/
import Derived.Test.YtfdedkcidemimaaDoorPgC
import Derived.Test.YtfdedkcidemimaaDoorLibAll
namespace Go.Proofs.YtfdedkcidemimaaDoor
set_option linter.unusedVariables false
open Go.ChangeShapes Go.WideShapes Go.ChangeAt Go.RowKit

theorem str_info : (Tryd.prog.info? 9).map (fun i => (i.zero, i.size, i.bytes)) = some (some (.string .empty), 1, 16) := by kernel_rfl
def stC (s : ByteArray) : List Value := [.string s]
theorem stC_len (s : ByteArray) : (stC s).length = 1 := rfl
theorem stC_flat (l : List ByteArray) : (l.map stC).flatten = l.map Value.string := by
  induction l with
  | nil => rfl
  | cons a l ih => rw [List.map_cons, List.flatten_cons, ih]; rfl
/-- A content in a block of its own. -/
def CBx (w : World) (g : Nat) (x y z : Int) (v : Value) : Prop := w.heap[g]? = some (.cells #[.int .i64 x, .int .i64 y, .int .i64 z, v] 52 (0, 0))
section
variable {w w' : World} {g : Nat} {v : Value} {x y z : Int}
theorem cbx_new (w : World) (x y z : Int) (v : Value) : CBx (w.alloc (.cells #[.int .i64 x, .int .i64 y, .int .i64 z, v] 52)) w.heap.size x y z v := heap_alloc_new w _
theorem CBx.lt (h : CBx w g x y z v) : g < w.heap.size := (Array.getElem?_eq_some_iff.1 h).1
theorem CBx.kept (h : CBx w g x y z v) (hb : Below w.heap.size w w') : CBx w' g x y z v := (hb.block g h.lt).trans h
theorem CBx.alloc (h : CBx w g x y z v) (o : Obj) : CBx (w.alloc o) g x y z v := h.kept (Bel.one w o)
theorem CBx.far (h : CBx w g x y z v) {p : Addr} (hp : g ≠ p.block) (u : Value) : CBx (w.setCell p u) g x y z v := (Below.heap_setCell w p u g hp).trans h
theorem CBx.grown {row : Option Nat} (h : CBx w g x y z v) (hb : w.grownBy w' row) (hg : some g ≠ row) : CBx w' g x y z v := (hb.block g h.lt hg).trans h
theorem CBx.cells (h : CBx w g x y z v) : w.cell? ⟨g, 0, none⟩ = some (.int .i64 x) ∧ w.cell? ⟨g, 1, none⟩ = some (.int .i64 y) ∧ w.cell? ⟨g, 2, none⟩ = some (.int .i64 z) ∧ w.cell? ⟨g, 3, none⟩ = some v ∧ w.frozen? ⟨g, 0, none⟩ = false ∧ w.frozen? ⟨g, 1, none⟩ = false ∧ w.frozen? ⟨g, 2, none⟩ = false ∧ w.frozen? ⟨g, 3, none⟩ = false := by
  refine ⟨cell_of_row w g 0 _ _ (0, 0) h, cell_of_row w g 1 _ _ (0, 0) h, cell_of_row w g 2 _ _ (0, 0) h, cell_of_row w g 3 _ _ (0, 0) h, ?_, ?_, ?_, ?_⟩
  all_goals
    unfold CBx at h
    simp [World.frozen?, h]
theorem CBx.set3 (h : CBx w g x y z v) (u : Value) : CBx (w.setCell ⟨g, 3, none⟩ u) g x y z u := by
  unfold CBx at *
  simp [World.setCell, Array.getElem?_modify, h]
theorem CBx.set4 (h : CBx w g x y z v) (x' y' z' : Int) (u : Value) : CBx ((((w.setCell ⟨g, 0, none⟩ (.int .i64 x')).setCell ⟨g, 1, none⟩ (.int .i64 y')).setCell ⟨g, 2, none⟩ (.int .i64 z')).setCell ⟨g, 3, none⟩ u) g x' y' z' u := by
  unfold CBx at *
  simp [World.setCell, Array.getElem?_modify, h]
end
theorem below_set4 {B b : Nat} {w w1 : World} (h : Below B w w1) (hb : B ≤ b) (x y z u : Value) : Below B w ((((w1.setCell ⟨b, 0, none⟩ x).setCell ⟨b, 1, none⟩ y).setCell ⟨b, 2, none⟩ z).setCell ⟨b, 3, none⟩ u) :=
  (((h.setCell (p := ⟨b, 0, none⟩) hb x).setCell (p := ⟨b, 1, none⟩) hb y).setCell (p := ⟨b, 2, none⟩) hb z).setCell (p := ⟨b, 3, none⟩) hb u
theorem CBx.far4 {w : World} {g b : Nat} {v : Value} {x y z : Int} (h : CBx w g x y z v) (hg : g ≠ b) (p q r u : Value) : CBx ((((w.setCell ⟨b, 0, none⟩ p).setCell ⟨b, 1, none⟩ q).setCell ⟨b, 2, none⟩ r).setCell ⟨b, 3, none⟩ u) g x y z v :=
  (((h.far (p := ⟨b, 0, none⟩) hg p).far (p := ⟨b, 1, none⟩) hg q).far (p := ⟨b, 2, none⟩) hg r).far (p := ⟨b, 3, none⟩) hg u
theorem end_ct {f : Func} {p : Tmp} (hf : f.results = #[.cell p 52]) {a : Act} {w : World} {b : Nat} {v : Value} {x y z : Int} {Q : Ending → World → Prop} (hp : a.tmps.getD p undef = .pointer (some ⟨b, 0, none⟩)) (hd : a.defers = []) (hx : CBx w b x y z v) (hq : Q (.returned (.agg #[.int .i64 x, .int .i64 y, .int .i64 z, v])) w) : bodyPost Tryd.prog f Q .ret a w :=
  bodyPost_ret (v := .agg #[.int .i64 x, .int .i64 y, .int .i64 z, v]) (results_cell_row hf _ _ b 52 _ (0, 0) _ hp hx Tryd.underlying52 rfl (by kernel_rfl)) hd hq
/-- The sectors, in memory of the call's own from block B on. -/
def OwnS (w : World) (B : Nat) (v : Value) (l : List ByteArray) : Prop := w.ownsRow B 9 1 v l.length (l.map stC).flatten
theorem OwnS.sl {w : World} {B : Nat} {v : Value} {l : List ByteArray} (h : OwnS w B v l) : ∃ A c, v = .slice A l.length c ∧ SlAt stC 1 w w.heap.size A l.length c l := sl_of_own h stC_len
theorem OwnS.kept {w w' : World} {B : Nat} {v : Value} {l : List ByteArray} (h : OwnS w B v l) (hb : Below w.heap.size w w') : OwnS w' B v l := own_below h hb
theorem OwnS.more {w : World} {B B' : Nat} {v : Value} {l : List ByteArray} (h : OwnS w B v l) (hB : B' ≤ B) : OwnS w B' v l := by
  refine ⟨h.1, ?_⟩
  rcases h.2 with hn | ⟨g, cap, cur, hv, h1, rest⟩
  · exact .inl hn
  · exact .inr ⟨g, cap, cur, hv, by omega, rest⟩
theorem OwnS.far {w : World} {B : Nat} {v : Value} {l : List ByteArray} (h : OwnS w B v l) {p : Addr} {x y z : Int} {u0 : Value} (hx : CBx w p.block x y z u0) (u : Value) : OwnS (w.setCell p u) B v l := by
  refine ownsRow_setCell_other h ?_ u
  rcases h.2 with ⟨rfl, _⟩ | ⟨g, cap, cur, rfl, _, hh, _⟩
  · simp [Value.ownBlock]
  · intro he
    have : g = p.block := by simpa [Value.ownBlock] using he
    subst this
    unfold CBx at hx
    rw [hx] at hh
    injection hh with hh
    injection hh with _ ht
    exact absurd ht (by decide)
theorem OwnS.far4 {w : World} {B b : Nat} {v : Value} {l : List ByteArray} {x y z : Int} {u0 : Value} (h : OwnS w B v l) (hx : CBx w b x y z u0) (x' y' z' : Int) (u : Value) : OwnS ((((w.setCell ⟨b, 0, none⟩ (.int .i64 x')).setCell ⟨b, 1, none⟩ (.int .i64 y')).setCell ⟨b, 2, none⟩ (.int .i64 z')).setCell ⟨b, 3, none⟩ u) B v l := by
  have e : ∀ {W : World}, OwnS W B v l → (v.ownBlock ≠ some b) → ∀ (i : Nat) (c : Value), OwnS (W.setCell ⟨b, i, none⟩ c) B v l := fun h hne i c => ownsRow_setCell_other h hne c
  have hne : v.ownBlock ≠ some b := by
    rcases h.2 with ⟨rfl, _⟩ | ⟨g, cap, cur, rfl, _, hh, _⟩
    · simp [Value.ownBlock]
    · intro he
      have : g = b := by simpa [Value.ownBlock] using he
      subst this
      unfold CBx at hx
      rw [hx] at hh
      injection hh with hh
      injection hh with _ ht
      exact absurd ht (by decide)
  exact e (e (e (e h hne 0 _) hne 1 _) hne 2 _) hne 3 _
theorem box_row_ne {w : World} {B q gr n c : Nat} {l : List ByteArray} {v : Value} {x y z : Int} (ho : OwnS w B (.slice (some ⟨gr, 0, none⟩) n c) l) (hx : CBx w q x y z v) : q ≠ gr := by
  intro e
  subst e
  rcases ho.2 with ⟨hv', _⟩ | ⟨g', cap, cur, hv', _, hh, _⟩
  · cases hv'
  · injection hv' with h1 _ _
    injection h1 with h1
    injection h1 with h1 _
    subst h1
    unfold CBx at hx
    rw [hx] at hh
    injection hh with hh
    injection hh with _ ht
    exact absurd ht (by decide)
/-- One sector anew. -/
theorem OwnS.put {w : World} {B n c : Nat} {g : Nat} {l : List ByteArray} (h : OwnS w B (.slice (some ⟨g, 0, none⟩) n c) l) {i : Nat} (hi : i < l.length) (u : ByteArray) : OwnS (w.setCell ⟨g, i, none⟩ (.string u)) B (.slice (some ⟨g, 0, none⟩) n c) (l.set i u) := by
  unfold OwnS at *
  rw [stC_flat] at h ⊢
  refine ⟨by simp, ?_⟩
  rcases h.2 with ⟨hv, _⟩ | ⟨g', cap, cur, hv, hb, hh, hnc, hm, hcs, ht⟩
  · cases hv
  · injection hv with h1 h2 h3
    injection h1 with h1
    injection h1 with h1 _
    subst h1 h2 h3
    have hll : (l.set i u).length = l.length := List.length_set
    rw [hll]
    refine .inr ⟨g, c, cur.setIfInBounds i (.string u), rfl, hb, ?_, hnc, hm, by rw [Array.size_setIfInBounds]; exact hcs, ?_⟩
    · simp [World.setCell, Array.getElem?_modify, hh]
    · rw [Array.toList_setIfInBounds, List.take_set, ht, List.map_set]
theorem OwnS.cells {w : World} {B : Nat} {v : Value} {l : List ByteArray} (h : OwnS w B v l) (i : Nat) (hi : i < l.length) : ∃ g c, v = .slice (some ⟨g, 0, none⟩) l.length c ∧ B ≤ g ∧ w.cell? ⟨g, i, none⟩ = some (.string l[i]) ∧ w.frozen? ⟨g, i, none⟩ = false := by
  rcases h.2 with ⟨_, hz⟩ | ⟨g, cap, cur, hv, hb, hh, hnc, hm, hcs, ht⟩
  · omega
  · refine ⟨g, cap, hv, hb, ?_, ?_⟩
    · refine (cell_of_row w g i _ _ (0, 0) hh).trans ?_
      have h2 := congrArg (·[i]?) ht
      simp only [stC_flat, Nat.mul_one] at h2
      rw [List.getElem?_take, if_pos hi, List.getElem?_map, List.getElem?_eq_getElem hi] at h2
      simpa using h2
    · simp [World.frozen?, hh]
theorem OwnS.cell {w : World} {B g n c : Nat} {l : List ByteArray} (h : OwnS w B (.slice (some ⟨g, 0, none⟩) n c) l) {i : Nat} (hi : i < l.length) : w.cell? ⟨g, i, none⟩ = some (.string l[i]) ∧ w.frozen? ⟨g, i, none⟩ = false ∧ B ≤ g := by
  obtain ⟨g2, c2, hv, hB, hc, hf⟩ := h.cells i hi
  injection hv with e1 _ _
  injection e1 with e1
  injection e1 with e1 _
  subst e1
  exact ⟨hc, hf, hB⟩
theorem stC_ones (l : List ByteArray) : ∀ u ∈ (l.map stC).flatten, u.oneCell' = true := by
  rw [stC_flat]
  intro u hu
  obtain ⟨b, _, rfl⟩ := List.mem_map.1 hu
  rfl
theorem stC_flen (l : List ByteArray) : (l.map stC).flatten.length = l.length * 1 := by rw [stC_flat, List.length_map, Nat.mul_one]
theorem own_nil (w : World) (B : Nat) : OwnS w B (.slice none 0 0) [] := World.ownsRow_nil _ _ _ _
/-- What a page says. -/
structure CtV where
  lsn : Int
  kind : Int
  link : Int
  recs : List ByteArray
def GivesC (w : World) (c : CtV) (e : Ending) (w' : World) : Prop := ∃ v, e = .returned (.agg #[.int .i64 c.lsn, .int .i64 c.kind, .int .i64 c.link, v]) ∧ OwnS w' w.heap.size v c.recs ∧ Below w.heap.size w w'
def GivesC2 (w : World) (c : CtV) (e : Ending) (w' : World) : Prop := ∃ v, e = .returned (.agg #[.int .i64 c.lsn, .int .i64 c.kind, .int .i64 c.link, v]) ∧ OwnS w' w.heap.size v c.recs ∧ Below w.heap.size w w' ∧ ∃ g, v = .slice (some ⟨g, 0, none⟩) c.recs.length c.recs.length
def readC (p : ByteArray) : CtV := ⟨(getP p 4 6).1, bN p 10, (getP p 12 3).1, (List.range (shN p 15)).map (recAt p)⟩
def recsTo (f : Nat → ByteArray) (n k : Nat) : List ByteArray := (List.range k).map f ++ List.replicate (n - k) .empty
theorem recsTo_len (f : Nat → ByteArray) {n k : Nat} (h : k ≤ n) : (recsTo f n k).length = n := by unfold recsTo; simp; omega
theorem recsTo_set (f : Nat → ByteArray) {n k : Nat} (h : k < n) : (recsTo f n k).set k (f k) = recsTo f n (k + 1) := by
  unfold recsTo
  obtain ⟨m, hm⟩ : ∃ m, n - k = m + 1 := ⟨n - k - 1, by omega⟩
  have hm2 : n - (k + 1) = m := by omega
  rw [hm, hm2, List.set_append]
  simp [List.range_succ, List.replicate_succ]
theorem recsTo_end (f : Nat → ByteArray) (n : Nat) : recsTo f n n = (List.range n).map f := by unfold recsTo; simp
end Go.Proofs.YtfdedkcidemimaaDoor
