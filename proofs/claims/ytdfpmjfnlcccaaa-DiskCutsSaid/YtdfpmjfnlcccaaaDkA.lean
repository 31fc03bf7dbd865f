/- A disk in memory; the contract of disk.fresh. -/
import Derived.Test.YtdfpmjfnlcccaaaDkM
import Derived.Test.YtdfpmjfnlcccaaaTab
import Derived.Test.YtdfpmjfnlcccaaaBulk
namespace Go.Proofs.Ytdfpmjfnlcccaaa
set_option linter.unusedVariables false
open Go.ChangeShapes Go.WideShapes Go.ChangeAt Go.RowKit

theorem str_info : (Try.prog.info? 9).map (fun i => (i.zero, i.size, i.bytes)) = some (some (.string .empty), 1, 16) := by kernel_rfl
def stC (s : ByteArray) : List Value := [.string s]
theorem stC_len (s : ByteArray) : (stC s).length = 1 := rfl
theorem stC_flat (l : List ByteArray) : (l.map stC).flatten = l.map Value.string := by
  induction l with
  | nil => rfl
  | cons a l ih => rw [List.map_cons, List.flatten_cons, ih]; rfl
def diskAgg (A : Option Addr) (n c : Nat) (x : Int) (b : Bool) : Value := .agg #[.slice A n c, .int .i64 x, .bool b]
/-- A disk in a block of its own. -/
def DBox (w : World) (g : Nat) (v : Value) (x : Int) (b : Bool) : Prop := w.heap[g]? = some (.cells #[v, .int .i64 x, .bool b] 25 (0, 0))
section
variable {w w' : World} {g : Nat} {v : Value} {x : Int} {b : Bool}
theorem dbox_new (w : World) (v : Value) (x : Int) (b : Bool) : DBox (w.alloc (.cells #[v, .int .i64 x, .bool b] 25)) w.heap.size v x b := heap_alloc_new w _
theorem DBox.lt (h : DBox w g v x b) : g < w.heap.size := (Array.getElem?_eq_some_iff.1 h).1
theorem DBox.kept (h : DBox w g v x b) (hb : Below w.heap.size w w') : DBox w' g v x b := (hb.block g h.lt).trans h
theorem DBox.alloc (h : DBox w g v x b) (o : Obj) : DBox (w.alloc o) g v x b := h.kept (Bel.one w o)
theorem DBox.far (h : DBox w g v x b) {p : Addr} (hp : g ≠ p.block) (u : Value) : DBox (w.setCell p u) g v x b := (Below.heap_setCell w p u g hp).trans h
theorem DBox.grown {row : Option Nat} (h : DBox w g v x b) (hb : w.grownBy w' row) (hg : some g ≠ row) : DBox w' g v x b := (hb.block g h.lt hg).trans h
theorem DBox.cells (h : DBox w g v x b) : w.cell? ⟨g, 0, none⟩ = some v ∧ w.cell? ⟨g, 1, none⟩ = some (.int .i64 x) ∧ w.cell? ⟨g, 2, none⟩ = some (.bool b) ∧ w.frozen? ⟨g, 0, none⟩ = false ∧ w.frozen? ⟨g, 1, none⟩ = false ∧ w.frozen? ⟨g, 2, none⟩ = false := by
  refine ⟨cell_of_row w g 0 _ _ (0, 0) h, cell_of_row w g 1 _ _ (0, 0) h, cell_of_row w g 2 _ _ (0, 0) h, ?_, ?_, ?_⟩
  all_goals
    unfold DBox at h
    simp [World.frozen?, h]
theorem DBox.set0 (h : DBox w g v x b) (u : Value) : DBox (w.setCell ⟨g, 0, none⟩ u) g u x b := by
  unfold DBox at *
  simp [World.setCell, Array.getElem?_modify, h]
theorem DBox.set1 (h : DBox w g v x b) (y : Int) : DBox (w.setCell ⟨g, 1, none⟩ (.int .i64 y)) g v y b := by
  unfold DBox at *
  simp [World.setCell, Array.getElem?_modify, h]
theorem DBox.set2 (h : DBox w g v x b) (y : Bool) : DBox (w.setCell ⟨g, 2, none⟩ (.bool y)) g v x y := by
  unfold DBox at *
  simp [World.setCell, Array.getElem?_modify, h]
theorem DBox.set3 (h : DBox w g v x b) (u : Value) (y : Int) (z : Bool) : DBox (((w.setCell ⟨g, 0, none⟩ u).setCell ⟨g, 1, none⟩ (.int .i64 y)).setCell ⟨g, 2, none⟩ (.bool z)) g u y z := ((h.set0 u).set1 y).set2 z
end
theorem below_set3 {B b : Nat} {w w1 : World} (h : Below B w w1) (hb : B ≤ b) (x y z : Value) : Below B w (((w1.setCell ⟨b, 0, none⟩ x).setCell ⟨b, 1, none⟩ y).setCell ⟨b, 2, none⟩ z) :=
  ((h.setCell (p := ⟨b, 0, none⟩) hb x).setCell (p := ⟨b, 1, none⟩) hb y).setCell (p := ⟨b, 2, none⟩) hb z
theorem far3 {w : World} {g b : Nat} {v : Value} {x : Int} {d : Bool} (h : DBox w g v x d) (hg : g ≠ b) (p q r : Value) : DBox (((w.setCell ⟨b, 0, none⟩ p).setCell ⟨b, 1, none⟩ q).setCell ⟨b, 2, none⟩ r) g v x d :=
  ((h.far (p := ⟨b, 0, none⟩) hg p).far (p := ⟨b, 1, none⟩) hg q).far (p := ⟨b, 2, none⟩) hg r
theorem end_disk {f : Func} {p : Tmp} (hf : f.results = #[.cell p 25]) {a : Act} {w : World} {b : Nat} {v : Value} {x : Int} {d : Bool} {Q : Ending → World → Prop} (hp : a.tmps.getD p undef = .pointer (some ⟨b, 0, none⟩)) (hd : a.defers = []) (hx : DBox w b v x d) (hq : Q (.returned (.agg #[v, .int .i64 x, .bool d])) w) : bodyPost Try.prog f Q .ret a w :=
  bodyPost_ret (v := .agg #[v, .int .i64 x, .bool d]) (results_cell_row hf _ _ b 25 _ (0, 0) _ hp hx Try.underlying25 rfl (by kernel_rfl)) hd hq
theorem end_disk2 {f : Func} {p y : Tmp} (hf : f.results = #[.cell p 25, .tmp y]) {a : Act} {w : World} {b : Nat} {v : Value} {x : Int} {d : Bool} {Q : Ending → World → Prop} (hp : a.tmps.getD p undef = .pointer (some ⟨b, 0, none⟩)) (hd : a.defers = []) (hx : DBox w b v x d) {y1 : Value} (h1 : a.tmps.getD y undef = y1)
    (hq : Q (.returned (.tuple #[.agg #[v, .int .i64 x, .bool d], y1])) w) : bodyPost Try.prog f Q .ret a w := by
  refine bodyPost_ret (v := .tuple #[.agg #[v, .int .i64 x, .bool d], y1]) ?_ hd hq
  have hl := run_loadVar_row (P := Try.prog) w b 25 25 _ (0, 0) _ hx Try.underlying25 rfl (by kernel_rfl)
  have hp' : a.tmps[p]?.getD undef = .pointer (some ⟨b, 0, none⟩) := by simpa using hp
  have h1' : a.tmps[y]?.getD undef = y1 := by simpa using h1
  simp [results, hf, hp', asAddr, hl, h1', Result.andThen]
/-- The sectors, in memory of the call's own from block B on. -/
def OwnS (w : World) (B : Nat) (v : Value) (l : List ByteArray) : Prop := w.ownsRow B 9 1 v l.length (l.map stC).flatten
theorem OwnS.sl {w : World} {B : Nat} {v : Value} {l : List ByteArray} (h : OwnS w B v l) : ∃ A c, v = .slice A l.length c ∧ SlAt stC 1 w w.heap.size A l.length c l := sl_of_own h stC_len
theorem OwnS.kept {w w' : World} {B : Nat} {v : Value} {l : List ByteArray} (h : OwnS w B v l) (hb : Below w.heap.size w w') : OwnS w' B v l := own_below h hb
theorem OwnS.more {w : World} {B B' : Nat} {v : Value} {l : List ByteArray} (h : OwnS w B v l) (hB : B' ≤ B) : OwnS w B' v l := by
  refine ⟨h.1, ?_⟩
  rcases h.2 with hn | ⟨g, cap, cur, hv, h1, rest⟩
  · exact .inl hn
  · exact .inr ⟨g, cap, cur, hv, by omega, rest⟩
theorem OwnS.far {w : World} {B : Nat} {v : Value} {l : List ByteArray} (h : OwnS w B v l) {p : Addr} {x : Value} {y : Int} {z : Bool} (hx : DBox w p.block x y z) (u : Value) : OwnS (w.setCell p u) B v l := by
  refine ownsRow_setCell_other h ?_ u
  rcases h.2 with ⟨rfl, _⟩ | ⟨g, cap, cur, rfl, _, hh, _⟩
  · simp [Value.ownBlock]
  · intro he
    have : g = p.block := by simpa [Value.ownBlock] using he
    subst this
    unfold DBox at hx
    rw [hx] at hh
    injection hh with hh
    injection hh with _ ht
    exact absurd ht (by decide)
/-- One sector anew. -/
theorem OwnS.put {w : World} {B n c : Nat} {g : Nat} {l : List ByteArray} (h : OwnS w B (.slice (some ⟨g, 0, none⟩) n c) l) {i : Nat} (hi : i < l.length) (u : ByteArray) : OwnS (w.setCell ⟨g, i, none⟩ (.string u)) B (.slice (some ⟨g, 0, none⟩) n c) (l.set i u) := by
  unfold OwnS at *
  rw [stC_flat] at h ⊢
  refine ⟨by simp, ?_⟩
  rcases h.2 with ⟨hv, _⟩ | ⟨g', cap, cur, hv, hb, hh, hnc, hm, hcs, ht⟩
  · cases hv
  · injection hv with h1 h2 h3
    injection h1 with h1
    injection h1 with h1 _
    subst h1 h2 h3
    have hll : (l.set i u).length = l.length := List.length_set
    rw [hll]
    refine .inr ⟨g, c, cur.setIfInBounds i (.string u), rfl, hb, ?_, hnc, hm, by rw [Array.size_setIfInBounds]; exact hcs, ?_⟩
    · simp [World.setCell, Array.getElem?_modify, hh]
    · rw [Array.toList_setIfInBounds, List.take_set, ht, List.map_set]
theorem OwnS.cells {w : World} {B : Nat} {v : Value} {l : List ByteArray} (h : OwnS w B v l) (i : Nat) (hi : i < l.length) : ∃ g c, v = .slice (some ⟨g, 0, none⟩) l.length c ∧ B ≤ g ∧ w.cell? ⟨g, i, none⟩ = some (.string l[i]) ∧ w.frozen? ⟨g, i, none⟩ = false := by
  rcases h.2 with ⟨_, hz⟩ | ⟨g, cap, cur, hv, hb, hh, hnc, hm, hcs, ht⟩
  · omega
  · refine ⟨g, cap, hv, hb, ?_, ?_⟩
    · refine (cell_of_row w g i _ _ (0, 0) hh).trans ?_
      have h2 := congrArg (·[i]?) ht
      simp only [stC_flat, Nat.mul_one] at h2
      rw [List.getElem?_take, if_pos hi, List.getElem?_map, List.getElem?_eq_getElem hi] at h2
      simpa using h2
    · simp [World.frozen?, hh]
/-- A disk with sectors in new memory. -/
def GivesF (w : World) (l : List ByteArray) (x : Int) (b : Bool) (e : Ending) (w' : World) : Prop := ∃ v, e = .returned (.agg #[v, .int .i64 x, .bool b]) ∧ OwnS w' w.heap.size v l ∧ Below w.heap.size w w'
theorem stC_ones (l : List ByteArray) : ∀ u ∈ (l.map stC).flatten, u.oneCell' = true := by
  rw [stC_flat]
  intro u hu
  obtain ⟨b, _, rfl⟩ := List.mem_map.1 hu
  rfl
theorem stC_flen (l : List ByteArray) : (l.map stC).flatten.length = l.length * 1 := by rw [stC_flat, List.length_map, Nat.mul_one]
end Go.Proofs.Ytdfpmjfnlcccaaa
