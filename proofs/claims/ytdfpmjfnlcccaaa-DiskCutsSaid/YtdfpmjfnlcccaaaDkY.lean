/- A disk, and acts, that came in. -/
import Derived.Test.YtdfpmjfnlcccaaaDkQ
import Derived.Test.YtdfpmjfnlcccaaaField
import Derived.ShutString
namespace Go.Proofs.Ytdfpmjfnlcccaaa
set_option linter.unusedVariables false
open Go.ChangeShapes Go.WideShapes Go.ChangeAt Go.RowKit Go.Joins Go.Deep
open Go.ChangeMaps (open_string)

theorem one_int : Try.prog.cellsOf 3 = 1 := by kernel_rfl
theorem one_bool : Try.prog.cellsOf 4 = 1 := by kernel_rfl
theorem one_str : Try.prog.cellsOf 9 = 1 := by kernel_rfl
theorem one_strs : Try.prog.cellsOf 23 = 1 := by kernel_rfl
theorem three_disk : Try.prog.cellsOf 25 = 3 := by kernel_rfl
section
variable {H : Type} {enc : TypeId × Value → H} {w : World} {base : Nat} {spare : Nat → Bool} {held : Bool}
theorem open_strs {n : Nat} {cs : List Value} {x : DataW H × List MemPlace} (h : DataW.trod enc Try.prog w base spare held n 23 cs = some x) :
    ∃ A N C l, cs = [.slice A N C] ∧ SlAt stC 1 w w.heap.size A N C l := by
  obtain ⟨A, N, C, l, e, h1, h2, h3, h4, h5, h6, _⟩ := open_elems (α := ByteArray) stC (Good := fun _ => True) Try.underlying23 (k := 1) one_str (by omega) Rows.uptoBulk bulk_el bulk_le (M := Rows.uptoBulk x.1) (Nat.le_refl _) (fun n vs y hl hy _ => by
    obtain ⟨s, hs, _, _⟩ := DataW.trod_string Try.underlying9 hy
    exact ⟨s, hs, trivial⟩) h
  exact ⟨A, N, C, l, e, h4, h1, h2, h3, h6⟩
theorem open_diskT {v : Value} {d : DataW H} {p : List MemPlace} (hok : Value.okWide Try.prog w .any base 25 v) (h : DataW.Trod enc Try.prog w 0 (fun _ => true) true 25 v d p) :
    ∃ A N C D, v = .agg #[.slice A N C, .int .i64 D.left, .bool D.down] ∧ DkAt w A N C D.secs ∧ Left64 D := by
  obtain ⟨cs, rfl, hsz⟩ := okWide_struct Try.underlying25 hok
  rw [three_disk] at hsz
  obtain ⟨fuel, hf⟩ := h
  obtain ⟨l⟩ := cs
  match l, hsz with
  | [x0, x1, x2], _ =>
    obtain ⟨_, _, g0, _⟩ := field_of Try.underlying25 hf 0 rfl rfl one_strs
    obtain ⟨_, _, g1, _⟩ := field_of Try.underlying25 hf 1 rfl rfl one_int
    obtain ⟨_, _, g2, _⟩ := field_of Try.underlying25 hf 2 rfl rfl one_bool
    obtain ⟨A, N, C, l, f0, hs⟩ := open_strs g0
    obtain ⟨a, f1, _, wa⟩ := DataW.trod_int Try.underlying3 g1
    obtain ⟨b, f2, _⟩ := DataW.trod_bool Try.underlying4 g2
    simp [Value.cells] at f0 f1 f2
    subst f0 f1 f2
    exact ⟨A, N, C, ⟨l, a, b⟩, rfl, hs, bounds_i64 wa⟩
/-- An act. -/
structure ActV where
  kind : Int
  at' : Int
  num : Int
  str : ByteArray
def actC (a : ActV) : List Value := [.int .i64 a.kind, .int .i64 a.at', .int .i64 a.num, .string a.str]
theorem actC_len (a : ActV) : (actC a).length = 4 := rfl
def OkAct (a : ActV) : Prop := (-9223372036854775808 ≤ a.at' ∧ a.at' ≤ 9223372036854775807) ∧ (-9223372036854775808 ≤ a.num ∧ a.num ≤ 9223372036854775807)
theorem open_act {n : Nat} {vs : List Value} {y : DataW H × List MemPlace} (hl : vs.length = 4) (h : DataW.trod enc Try.prog w base spare held n 32 vs = some y) : ∃ a : ActV, vs = actC a ∧ OkAct a := by
  match vs, hl with
  | [x0, x1, x2, x3], _ =>
    obtain ⟨_, _, g0, _⟩ := field_of Try.underlying32 h 0 rfl rfl one_int
    obtain ⟨_, _, g1, _⟩ := field_of Try.underlying32 h 1 rfl rfl one_int
    obtain ⟨_, _, g2, _⟩ := field_of Try.underlying32 h 2 rfl rfl one_int
    obtain ⟨_, _, g3, _⟩ := field_of Try.underlying32 h 3 rfl rfl one_str
    obtain ⟨a, f0, _, _⟩ := DataW.trod_int Try.underlying3 g0
    obtain ⟨b, f1, _, wb⟩ := DataW.trod_int Try.underlying3 g1
    obtain ⟨c, f2, _, wc⟩ := DataW.trod_int Try.underlying3 g2
    obtain ⟨s, f3, _, _⟩ := DataW.trod_string Try.underlying9 g3
    simp at f0 f1 f2 f3
    subst f0 f1 f2 f3
    exact ⟨⟨a, b, c, s⟩, rfl, bounds_i64 wb, bounds_i64 wc⟩
theorem open_actsT {v : Value} {d : DataW H} {p : List MemPlace} (hok : Value.okWide Try.prog w .any base 22 v) (h : DataW.Trod enc Try.prog w 0 (fun _ => true) true 22 v d p) :
    ∃ A N C l, v = .slice A N C ∧ SlAt actC 4 w w.heap.size A N C l ∧ ∀ a ∈ l, OkAct a := by
  obtain ⟨n, h0⟩ := h
  obtain ⟨A, N, C, l, e, h1, h2, h3, h4, h5, h6, h7⟩ := open_elems (α := ActV) actC (Good := OkAct) Try.underlying22 (k := 4) (by kernel_rfl) (by omega) Rows.uptoBulk bulk_el bulk_le (M := Rows.uptoBulk d) (Nat.le_refl _) (fun n vs y hl hy _ => open_act hl hy) h0
  obtain ⟨a0, len0, cap0, rfl⟩ := okWide_slice Try.underlying22 hok
  simp [Value.cells] at e
  obtain ⟨rfl, rfl, rfl⟩ := e
  exact ⟨_, _, _, l, rfl, ⟨h4, h1, h2, h3, h6⟩, h7⟩
end
end Go.Proofs.Ytdfpmjfnlcccaaa
