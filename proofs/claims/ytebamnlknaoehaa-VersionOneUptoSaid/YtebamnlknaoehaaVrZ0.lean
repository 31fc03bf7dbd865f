/- Versions that came in. -/
import Derived.Test.YtebamnlknaoehaaVrH
import Derived.Test.YtebamnlknaoehaaField
namespace Go.Proofs.Ytebamnlknaoehaa
set_option linter.unusedVariables false
open Go.ChangeShapes Go.WideShapes Go.ChangeAt Go.RowKit Go.Joins Go.Deep
open Go.ChangeMaps (open_string)

theorem one_row : Try.prog.cellsOf 23 = 1 := by kernel_rfl
theorem four_ver : Try.prog.cellsOf 25 = 4 := by kernel_rfl
theorem two_rid : Try.prog.cellsOf 38 = 2 := by kernel_rfl
section
variable {H : Type} {enc : TypeId × Value → H} {w : World} {base : Nat} {spare : Nat → Bool} {held : Bool}
theorem part_le {d z : DataW H} {l : List (DataW H)} {M : Nat} (hd : d = .agg l) (hz : z ∈ l) (hM : Rows.uptoBulk d ≤ M) : Rows.uptoBulk z ≤ M := by
  have h1 := bulk_parts l
  have h2 := bulk_mem hz
  rw [hd] at hM
  omega
theorem open_ver {n : Nat} {vs : List Value} {y : DataW H × List MemPlace} {M : Nat} (hl : vs.length = 4) (h : DataW.trod enc Try.prog w base spare held n 25 vs = some y) (hM : Rows.uptoBulk y.1 ≤ M) :
    ∃ a b c A N C l, vs = [.int .i64 a, .int .i64 b, .int .i64 c, .slice A N C] ∧ RowAt w w.heap.size A N C l ∧ N ≤ M ∧ ∀ a ∈ l, (-9223372036854775808 ≤ a.num ∧ a.num ≤ 9223372036854775807) ∧ a.str.size ≤ M := by
  match vs, hl with
  | [x0, x1, x2, x3], _ =>
    obtain ⟨_, _, g0, _⟩ := field_of Try.underlying25 h 0 rfl rfl one_int
    obtain ⟨_, _, g1, _⟩ := field_of Try.underlying25 h 1 rfl rfl one_int
    obtain ⟨_, _, g2, _⟩ := field_of Try.underlying25 h 2 rfl rfl one_int
    obtain ⟨_, z3, g3, l3, e3, m3⟩ := field_of Try.underlying25 h 3 rfl rfl one_row
    obtain ⟨a, f0, _, _⟩ := DataW.trod_int Try.underlying3 g0
    obtain ⟨b, f1, _, _⟩ := DataW.trod_int Try.underlying3 g1
    obtain ⟨c, f2, _, _⟩ := DataW.trod_int Try.underlying3 g2
    obtain ⟨A, N, C, l, f3, hr, hn, hg⟩ := open_vrow (part_le e3 m3 hM) g3
    simp at f0 f1 f2 f3
    subst f0 f1 f2 f3
    exact ⟨a, b, c, A, N, C, l, rfl, hr, hn, hg⟩
def GoodH (w : World) (M : Nat) (p : HeldP) : Prop := RowAt w w.heap.size p.1.A p.1.n p.1.k p.2 ∧ p.1.n ≤ M ∧ ∀ a ∈ p.2, (-9223372036854775808 ≤ a.num ∧ a.num ≤ 9223372036854775807) ∧ a.str.size ≤ M
theorem open_held {n : Nat} {vs : List Value} {y : DataW H × List MemPlace} {M : Nat} (hl : vs.length = 6) (h : DataW.trod enc Try.prog w base spare held n 40 vs = some y) (hM : Rows.uptoBulk y.1 ≤ M) :
    ∃ p : HeldP, vs = hpCells p ∧ GoodH w M p := by
  match vs, hl with
  | [x0, x1, x2, x3, x4, x5], _ =>
    obtain ⟨_, z0, g0, l0, e0, m0⟩ := field_of Try.underlying40 h 0 rfl rfl four_ver
    obtain ⟨_, z1, g1, _⟩ := field_of Try.underlying40 h 1 rfl rfl two_rid
    obtain ⟨a, b, c, A, N, C, l, f0, hr, hn, hg⟩ := open_ver rfl g0 (part_le e0 m0 hM)
    obtain ⟨_, _, k0, _⟩ := field_of Try.underlying38 g1 0 rfl rfl one_int
    obtain ⟨_, _, k1, _⟩ := field_of Try.underlying38 g1 1 rfl rfl one_int
    obtain ⟨pg, f4, _, _⟩ := DataW.trod_int Try.underlying3 k0
    obtain ⟨sl, f5, _, _⟩ := DataW.trod_int Try.underlying3 k1
    simp at f0 f4 f5
    obtain ⟨rfl, rfl, rfl, rfl⟩ := f0
    subst f4 f5
    exact ⟨(⟨a, b, c, A, N, C, pg, sl⟩, l), rfl, hr, hn, hg⟩
theorem open_verT {v : Value} {d : DataW H} {p : List MemPlace} (hok : Value.okWide Try.prog w .any base 25 v) (h : DataW.Trod enc Try.prog w 0 (fun _ => true) true 25 v d p) (hM : Rows.uptoBulk d ≤ 1048576) :
    ∃ a b c A N C l, v = verAgg a b c A N C ∧ RowAt w w.heap.size A N C l ∧ N ≤ 1048576 ∧ ∀ a ∈ l, OkV a := by
  obtain ⟨cs, rfl, hsz⟩ := okWide_struct Try.underlying25 hok
  rw [four_ver] at hsz
  obtain ⟨fuel, hf⟩ := h
  obtain ⟨a, b, c, A, N, C, l, ha, h1, h2, h3⟩ := open_ver (M := 1048576) (vs := cs.toList) (by rw [Array.length_toList]; exact hsz) hf hM
  refine ⟨a, b, c, A, N, C, l, ?_, h1, h2, h3⟩
  obtain ⟨l0⟩ := cs
  simp only at ha
  rw [ha]
  rfl
theorem open_heldsT {v : Value} {d : DataW H} {p : List MemPlace} (hok : Value.okWide Try.prog w .any base 35 v) (h : DataW.Trod enc Try.prog w 0 (fun _ => true) true 35 v d p) (hM : Rows.uptoBulk d ≤ 1048576) :
    ∃ A N C ps, v = .slice A N C ∧ HeldsAt w w.heap.size A N C ps ∧ N ≤ 1048576 ∧ ∀ p ∈ ps, GoodH w 1048576 p := by
  obtain ⟨n, h0⟩ := h
  obtain ⟨A, N, C, ps, e, h1, h2, h3, h4, h5, h6, h7⟩ := open_elems (α := HeldP) hpCells (Good := GoodH w 1048576) Try.underlying35 (k := 6) (by kernel_rfl) (by omega) Rows.uptoBulk bulk_el bulk_le (M := 1048576) (by simpa using hM) (fun n vs y hl hy hb => open_held hl hy hb) h0
  obtain ⟨a0, len0, cap0, rfl⟩ := okWide_slice Try.underlying35 hok
  simp [Value.cells] at e
  obtain ⟨rfl, rfl, rfl⟩ := e
  exact ⟨_, _, _, ps, rfl, ⟨⟨h4, h1, h2, h3, h6⟩, fun p hp => (h7 p hp).1⟩, h5, h7⟩
end
end Go.Proofs.Ytebamnlknaoehaa
