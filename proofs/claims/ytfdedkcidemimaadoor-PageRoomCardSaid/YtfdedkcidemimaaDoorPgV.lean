/- Pages: the loop of content.bytes. -/
import Derived.Test.YtfdedkcidemimaaDoorPgU
namespace Go.Proofs.YtfdedkcidemimaaDoor
set_option linter.unusedVariables false
set_option linter.unusedSimpArgs false
open Go.ChangeShapes Go.WideShapes Go.ChangeAt Go.RowKit

theorem u8_info : (Tryd.prog.info? 5).map (fun i => (i.zero, i.size, i.bytes)) = some (some (.int .u8 0), 1, 1) := by kernel_rfl
theorem mk512 (W : World) : (Instr.makeSlice 40 (.int .i64 512) (.int .i64 512)).run Tryd.prog W = .ok (.slice (some ⟨W.heap.size, 0, none⟩) 512 512) (W.alloc (.cells (madeCells #[.int .u8 0] 512) 5)) :=
  run_make_row' (P := Tryd.prog) 40 5 (.int .u8 0) 1 Tryd.underlying40 u8_info rfl .i64 .i64 512 (by omega) (by omega) W
theorem made_zeros (n : Nat) : madeCells #[.int .u8 0] n = (Lib.byteCells (List.replicate n 0)).toArray := by
  apply Array.ext'
  rw [toList_madeCells_one]
  simp [Lib.byteCells]
theorem wpList_copy_str {P : Program} {w : World} {ops : Array Oper} {rest : List Oper} {o : Oper} {a : Act} {Q : Exit → Act → World → Prop} (hgd : o.guard = none) (d s : Operand) (dT sT : TypeId)
    (ho : o.op = .call { callee := .builtin .copy, args := #[d, s], argTypes := #[dT, sT] }) (elem : TypeId) (hu : P.underlying dT = some (.slice elem)) (hsz : (P.info? elem).map (·.size) = some 1)
    (g off dLen dCap : Nat) (r : ByteArray) (l : List UInt8) (t : TypeId) (hd : a.eval d = .slice (some ⟨g, off, none⟩) dLen dCap) (hs : a.eval s = .string r)
    (hg : w.heap[g]? = some (.cells (Lib.byteCells l).toArray t (0, 0))) (hle : r.size ≤ dLen) (hfit : off + r.size ≤ l.length)
    (h : wpList P ops Q rest (a.put o.dst (goInt r.size)) (w.setRow g (Lib.byteCells (l.take off ++ r.data.toList ++ l.drop (off + r.size))).toArray)) : wpList P ops Q (o :: rest) a w := by
  refine wpList_plain hgd fun K hK => ?_
  have hrun := Lib.run_copy_row_string (P := P) w dT sT o.type elem g off dLen dCap r _ t hu hsz hg hle (by rw [List.size_toArray, Lib.byteCells_length]; exact hfit)
  have e : ((Lib.byteCells l).toArray.toList.take off ++ Lib.byteCells r.data.toList ++ (Lib.byteCells l).toArray.toList.drop (off + r.size)) = Lib.byteCells (l.take off ++ r.data.toList ++ l.drop (off + r.size)) := by
    simp [Lib.byteCells, List.map_take, List.map_drop]
  rw [e] at hrun
  generalize Lib.byteCells (l.take off ++ r.data.toList ++ l.drop (off + r.size)) = cs at *
  unfold Oper.wp
  simp [execOp, ho, resolve, invoke, builtin, hd, hs, hrun, Result.andThen]
  exact hK _ _ h
/-- What the loop keeps. -/
structure BtS (w : World) (g1 : Nat) (x y z : Int) (s : Value) (gr : Nat) (V : LayV) (v : Value) (wr : World) : Prop where
  bx : CBx wr g1 x y z s
  own : OwnB wr w.heap.size v V.slots
  row : RowB wr gr (List.replicate V.at' 0 ++ V.recs)
  ne : v.ownBlock ≠ some gr
  lt : g1 < gr
  g1 : w.heap.size ≤ g1
  hb : Below w.heap.size w wr
section
variable {w wr w' : World} {g1 gr : Nat} {x y z : Int} {s v v' : Value} {V : LayV}
theorem BtS.kept (h : BtS w g1 x y z s gr V v wr) (hb : Below wr.heap.size wr w') : BtS w g1 x y z s gr V v w' :=
  ⟨h.bx.kept hb, own_below h.own hb, h.row.kept hb, h.ne, h.lt, h.g1, Bel.then h.hb hb⟩
theorem BtS.box_ne (h : BtS w g1 x y z s gr V v wr) : v.ownBlock ≠ some g1 := by
  rcases h.own.2 with ⟨rfl, _⟩ | ⟨g, cap, cur, rfl, _, hh, _⟩
  · simp [Value.ownBlock]
  · intro he
    have : g = g1 := by simpa [Value.ownBlock] using he
    subst this
    have hx := h.bx
    unfold CBx at hx
    rw [hx] at hh
    injection hh with hh
    injection hh with _ ht
    exact absurd ht (by decide)
theorem BtS.app {news : List UInt8} (h : BtS w g1 x y z s gr V v wr) (hown : w'.ownsRow w.heap.size 5 1 v' (V.slots.length + news.length) (Lib.byteCells V.slots ++ Lib.byteCells news)) (hg : wr.grownBy w' v.ownBlock) (hat : v'.ownBlock = v.ownBlock ∨ v'.ownBlock = some wr.heap.size) : BtS w g1 x y z s gr ⟨V.at', V.slots ++ news, V.recs⟩ v' w' := by
  refine ⟨h.bx.grown hg (fun e => h.box_ne e.symm), ?_, h.row.grown hg (fun e => h.ne e.symm), ?_, h.lt, h.g1, ?_⟩
  · unfold OwnB
    simp only [List.length_append]
    have : Lib.byteCells (V.slots ++ news) = Lib.byteCells V.slots ++ Lib.byteCells news := by simp [Lib.byteCells]
    rw [this]
    exact hown
  · rcases hat with e | e
    · rw [e]; exact h.ne
    · rw [e]
      intro e2
      have := h.row.lt
      injection e2 with e2
      omega
  · exact own_grown h.hb hg (fun k hk => (h.own.lt k hk).1)
theorem BtS.copy {r : ByteArray} (h : BtS w g1 x y z s gr V v wr) (hr : r.size ≤ V.at') : BtS w g1 x y z s gr ⟨V.at' - r.size, V.slots, r.data.toList ++ V.recs⟩ v (wr.setRow gr (Lib.byteCells ((List.replicate V.at' 0 ++ V.recs).take (V.at' - r.size) ++ r.data.toList ++ (List.replicate V.at' 0 ++ V.recs).drop (V.at' - r.size + r.size))).toArray) := by
  have e : (List.replicate V.at' (0 : UInt8) ++ V.recs).take (V.at' - r.size) ++ r.data.toList ++ (List.replicate V.at' 0 ++ V.recs).drop (V.at' - r.size + r.size) = List.replicate (V.at' - r.size) 0 ++ (r.data.toList ++ V.recs) := by
    rw [show V.at' - r.size + r.size = V.at' by omega, List.take_append_of_le_length (by rw [List.length_replicate]; omega), List.take_replicate, List.drop_append, List.length_replicate, Nat.sub_self, List.drop_of_length_le (by rw [List.length_replicate]; omega), Nat.min_eq_left (by omega), List.append_assoc]
    rfl
  rw [e]
  refine ⟨?_, ?_, setRow_heap wr gr _ _ _ _ h.row, h.ne, h.lt, h.g1, ?_⟩
  · exact (setRow_other wr gr g1 _ (Nat.ne_of_lt h.lt)).trans h.bx
  · refine ⟨h.own.1, ?_⟩
    rcases h.own.2 with hn | ⟨g, cap, cur, hv, hB, hh, rest⟩
    · exact .inl hn
    · refine .inr ⟨g, cap, cur, hv, hB, (setRow_other wr gr g _ ?_).trans hh, rest⟩
      intro e
      subst e
      exact h.ne (by rw [hv]; rfl)
  · have hlt := h.lt
    have h1 := h.g1
    exact ⟨h.hb.os, h.hb.tape, h.hb.output, by simp [World.setRow]; exact h.hb.size, fun k hk => (setRow_other wr gr k _ (by omega)).trans (h.hb.block k hk)⟩
end
end Go.Proofs.YtfdedkcidemimaaDoor
