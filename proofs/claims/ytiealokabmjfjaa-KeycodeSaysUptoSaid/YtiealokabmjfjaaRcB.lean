/- Contracts: a number's bytes, a value's bytes into a builder. -/
import Derived.Test.YtiealokabmjfjaaRcA
namespace Go.Proofs.Ytiealokabmjfjaa
set_option linter.unusedVariables false
open Go.ChangeShapes Go.WideShapes Go.ChangeAt Go.RowKit

theorem conv_c (w : World) (xs : List Int) (t : TypeId) : (convert 43 9 (.slice (some ⟨w.heap.size, 0, none⟩) xs.length xs.length)).run Try.prog (w.alloc (.cells (xs.map (Value.int .u8)).toArray t)) = .ok (.string (strOfNums xs)) (w.alloc (.cells (xs.map (Value.int .u8)).toArray t)) := by
  refine run_convert_bytes_arg (w.alloc (.cells (xs.map (Value.int .u8)).toArray t)) 43 5 Try.underlying43 Try.underlying5 w.heap.size 0 xs.length xs.length xs rfl ?_ 9 Try.underlying9
  intro i hi
  have h := cell_of_row (w.alloc (.cells (xs.map (Value.int .u8)).toArray t)) w.heap.size i _ _ _ (heap_alloc_new w _)
  rw [Nat.zero_add]
  refine h.trans ?_
  simp [List.getD, hi]
theorem strOf_word (n : Int) : strOfNums (putL n 8) = ⟨(word8 n).toArray⟩ := rfl
theorem BldAt.kept {w w' : World} {B b : Nat} {l : List UInt8} (h : BldAt w B b l) (hb : Below w.heap.size w w') : BldAt w' B b l := by
  have key : ∀ p, Lib.BuilderAtF 48 5 B b p (Lib.byteCells l) w → Lib.BuilderAtF 48 5 B b p (Lib.byteCells l) w' := by
    intro p h
    have hlt := h.lt
    obtain ⟨hB, v, hh, hown, hne⟩ := h
    exact ⟨hB, v, (hb.block b hlt).trans hh, hown.kept (row := none) ⟨hb.os, hb.tape, hb.output, hb.size, fun k hk _ => hb.block k hk⟩ (by cases hv : v.ownBlock <;> simp), hne⟩
  rcases h with h | h
  · exact .inl (key _ h)
  · exact .inr (key _ h)
theorem bld_byteZ (B b : Nat) (l : List UInt8) (c : UInt8) (z : Int) (w : World) (hz : z = c.toNat) (h : BldAt w B b l) (hl : l.length ≤ 1099511627776) (hB : B ≤ w.heap.size) :
    Calls Try.prog 40 #[.pointer (some ⟨b, 0, none⟩), .int .u8 z] w fun e w' => e = .returned .nilIface ∧ BldAt w' B b (l ++ [c]) ∧ Below B w w' ∧ Lib.OthersKept 5 (some b) w w' := by
  subst hz
  refine (bld_byte B b l c w h hl hB).mono ?_
  rintro e w' ⟨rfl, h1, h2, h3⟩
  exact ⟨rfl, h1, h2, h3⟩
theorem bld_strZ (B b : Nat) (l : List UInt8) (s : ByteArray) (w : World) (h : BldAt w B b l) (hl : l.length + s.size ≤ 1099511627776) (hB : B ≤ w.heap.size) :
    Calls Try.prog 41 #[.pointer (some ⟨b, 0, none⟩), .string s] w fun e w' => e = .returned (.tuple #[.int .i64 s.size, .nilIface]) ∧ BldAt w' B b (l ++ s.data.toList) ∧ Below B w w' ∧ Lib.OthersKept 5 (some b) w w' := by
  refine (bld_str B b l s w h hl hB).mono ?_
  rintro e w' ⟨rfl, h1, h2, h3⟩
  exact ⟨rfl, h1, h2, h3⟩
theorem BldAt.lt {w : World} {B b : Nat} {l : List UInt8} (h : BldAt w B b l) : b < w.heap.size := h.elim (fun h => h.lt) (fun h => h.lt)
/-- A value in a block of its own. -/
def VBox (w : World) (g : Nat) (v : ValV) : Prop := w.heap[g]? = some (.cells #[.int .i64 v.kind, .int .i64 v.num, .string v.str] 39 (0, 0))
theorem vbox_new (w : World) (v : ValV) : VBox (w.alloc (.cells #[.int .i64 v.kind, .int .i64 v.num, .string v.str] 39)) w.heap.size v := heap_alloc_new w _
theorem VBox.others {w w' : World} {g b : Nat} {v : ValV} (h : VBox w g v) (hk : Lib.OthersKept 5 (some b) w w') (hne : b < g) : VBox w' g v :=
  hk g _ h (by intro e; injection e; omega) (by intro c fz e; injection e with _ e2 _; exact absurd e2 (by decide))
theorem VBox.kept {w w' : World} {g : Nat} {v : ValV} (h : VBox w g v) (hb : Below w.heap.size w w') : VBox w' g v := (hb.block g (Array.getElem?_eq_some_iff.1 h).1).trans h
theorem VBox.cells {w : World} {g : Nat} {v : ValV} (h : VBox w g v) : w.cell? ⟨g, 0, none⟩ = some (.int .i64 v.kind) ∧ w.cell? ⟨g, 1, none⟩ = some (.int .i64 v.num) ∧ w.cell? ⟨g, 2, none⟩ = some (.string v.str) :=
  ⟨Lib.cell_of_heap h 0, Lib.cell_of_heap h 1, Lib.cell_of_heap h 2⟩
/-- What put does. -/
def Puts (B b : Nat) (l : List UInt8) (w : World) (e : Ending) (w' : World) : Prop := e = .returned (.tuple #[]) ∧ BldAt w' B b l ∧ Below B w w'
theorem word_str (n : Int) : (strOfNums (putL n 8)).data.toList = word8 n := rfl
end Go.Proofs.Ytiealokabmjfjaa
