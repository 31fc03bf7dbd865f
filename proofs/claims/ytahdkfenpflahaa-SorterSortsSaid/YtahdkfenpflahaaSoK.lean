/- Rows and keys that came in, of any size; the walk of SorterSays. -/
import Derived.Test.YtahdkfenpflahaaSoJ
import Derived.Test.YtahdkfenpflahaaSoB
import Derived.Test.YtahdkfenpflahaaSoL1
namespace Go.Proofs.Ytahdkfenpflahaa
set_option linter.unusedVariables false
open Go.ChangeShapes Go.WideShapes Go.ChangeAt Go.RowKit Go.Joins Go.Deep

theorem one_bool : Try.prog.cellsOf 4 = 1 := by kernel_rfl
section
variable {H : Type} {enc : TypeId × Value → H} {w : World} {base : Nat} {spare : Nat → Bool} {held : Bool}
theorem open_valS {n : Nat} {vs : List Value} {y : DataW H × List MemPlace} (hl : vs.length = 3) (h : DataW.trod enc Try.prog w base spare held n 44 vs = some y) : ∃ a : ValV, vs = valCells a ∧ a.str.size ≤ 9223372036854775807 := by
  match vs, hl with
  | [x0, x1, x2], _ =>
    obtain ⟨_, _, g0, _⟩ := field_of Try.underlying44 h 0 rfl rfl one_int
    obtain ⟨_, _, g1, _⟩ := field_of Try.underlying44 h 1 rfl rfl one_int
    obtain ⟨_, _, g2, _⟩ := field_of Try.underlying44 h 2 rfl rfl one_str
    obtain ⟨a, f0, _, _⟩ := DataW.trod_int Try.underlying3 g0
    obtain ⟨b, f1, _, _⟩ := DataW.trod_int Try.underlying3 g1
    obtain ⟨s, f2, _, hs⟩ := DataW.trod_string Try.underlying9 g2
    simp at f0 f1 f2
    subst f0 f1 f2
    exact ⟨⟨a, b, s⟩, rfl, by unfold maxLen at hs; omega⟩
theorem open_rowC {n : Nat} {cs : List Value} {x : DataW H × List MemPlace} (h : DataW.trod enc Try.prog w base spare held n 23 cs = some x) : ∃ A N C l, cs = [.slice A N C] ∧ RowAt w w.heap.size A N C l ∧ StrsOk l := by
  obtain ⟨A, N, C, l, e, h1, h2, h3, h4, h5, h6, h7⟩ := open_elems (α := ValV) valCells (Good := fun a => a.str.size ≤ 9223372036854775807) Try.underlying23 (k := 3) (by kernel_rfl) (by omega) Rows.uptoBulk bulk_el bulk_le (M := Rows.uptoBulk x.1) (Nat.le_refl _) (fun n vs y hl hy _ => open_valS hl hy) h
  exact ⟨A, N, C, l, e, ⟨h4, h1, h2, h3, h6⟩, h7⟩
theorem open_rowS {v : Value} {d : DataW H} {p : List MemPlace} (hok : Value.okWide Try.prog w .any base 23 v) (h : DataW.Trod enc Try.prog w 0 (fun _ => true) true 23 v d p) : ∃ A N C l, v = .slice A N C ∧ RowAt w w.heap.size A N C l ∧ StrsOk l := by
  obtain ⟨n, h0⟩ := h
  obtain ⟨A, N, C, l, e, h1, h2⟩ := open_rowC h0
  obtain ⟨a0, len0, cap0, rfl⟩ := okWide_slice Try.underlying23 hok
  simp [Value.cells] at e
  obtain ⟨rfl, rfl, rfl⟩ := e
  exact ⟨_, _, _, l, rfl, h1, h2⟩
theorem open_key {n : Nat} {vs : List Value} {y : DataW H × List MemPlace} (hl : vs.length = 2) (h : DataW.trod enc Try.prog w base spare held n 41 vs = some y) : ∃ a : Int × Bool, vs = keyC a ∧ True := by
  match vs, hl with
  | [x0, x1], _ =>
    obtain ⟨_, _, g0, _⟩ := field_of Try.underlying41 h 0 rfl rfl one_int
    obtain ⟨_, _, g1, _⟩ := field_of Try.underlying41 h 1 rfl rfl one_bool
    obtain ⟨a, f0, _, _⟩ := DataW.trod_int Try.underlying3 g0
    obtain ⟨b, f1, _⟩ := DataW.trod_bool Try.underlying4 g1
    simp at f0 f1
    subst f0 f1
    exact ⟨(a, b), rfl, trivial⟩
theorem open_keysT {v : Value} {d : DataW H} {p : List MemPlace} (hok : Value.okWide Try.prog w .any base 24 v) (h : DataW.Trod enc Try.prog w 0 (fun _ => true) true 24 v d p) : ∃ A N C l, v = .slice A N C ∧ KeysAt w w.heap.size A N C l := by
  obtain ⟨n, h0⟩ := h
  obtain ⟨A, N, C, l, e, h1, h2, h3, h4, h5, h6, h7⟩ := open_elems (α := Int × Bool) keyC (Good := fun _ => True) Try.underlying24 (k := 2) (by kernel_rfl) (by omega) Rows.uptoBulk bulk_el bulk_le (M := Rows.uptoBulk d) (Nat.le_refl _) (fun n vs y hl hy _ => open_key hl hy) h0
  obtain ⟨a0, len0, cap0, rfl⟩ := okWide_slice Try.underlying24 hok
  simp [Value.cells] at e
  obtain ⟨rfl, rfl, rfl⟩ := e
  exact ⟨_, _, _, l, rfl, ⟨h4, h1, h2, h3, h6⟩⟩
end
set_option maxRecDepth 100000 in
set_option maxHeartbeats 2000000 in
theorem sorterSays_w (A A2 A3 : Option Addr) (n c n2 c2 n3 c3 : Nat) (r s : List ValV) (ks : List (Int × Bool)) (w : World) (h : RowAt w w.heap.size A n c r) (h2 : RowAt w w.heap.size A2 n2 c2 s) (hk : KeysAt w w.heap.size A3 n3 c3 ks) (hr : StrsOk r) (hs : StrsOk s) :
    Calls Try.prog 3 #[.slice A n c, .slice A2 n2 c2, .slice A3 n3 c3] w fun e w' => e = .returned (.bool true) ∧ Below w.heap.size w w' := by
  have Q1 := hide (fun (W : World) (hW : Below w.heap.size w W) => before_c A A2 A3 n c n2 c2 n3 c3 r s ks W (h.kept hW) (h2.kept hW) (hk.kept hW))
  have Q2 := hide (fun (W : World) (hW : Below w.heap.size w W) => rbefore_c A A2 A3 n c n2 c2 n3 c3 r s ks W (h.kept hW) (h2.kept hW) (hk.kept hW) hr hs)
  have Q3 := hide (fun (W : World) (hW : Below w.heap.size w W) => before_c A2 A A3 n2 c2 n c n3 c3 s r ks W (h2.kept hW) (h.kept hW) (hk.kept hW))
  have Q4 := hide (fun (W : World) (hW : Below w.heap.size w W) => before_c A A A3 n c n c n3 c3 r r ks W (h.kept hW) (h.kept hW) (hk.kept hW))
  have QA := hide (fun W => awake_c W)
  have x1 := befB_asymm r s ks
  rw [befB_irrefl] at Q4
  generalize befB r s ks = x at *
  generalize befB s r ks = y at *
  have HB := hide (Below.refl w.heap.size w)
  clear h h2 hk hr hs
  go_enter Try.func3, Try.ntmps3
  go_wp2_with fail
  refine (Q1.out _ HB.out).mono ?_
  rintro e w1 ⟨rfl, hb⟩
  replace HB := hide (Bel.then HB.out hb)
  clear hb
  go_wp2_with fail
  refine (QA.out _).mono ?_
  rintro e w2 ⟨rfl, hb⟩
  replace HB := hide (Bel.then HB.out hb)
  clear hb
  go_wp2_with fail
  refine (Q2.out _ HB.out).mono ?_
  rintro e w3 ⟨rfl, hb⟩
  replace HB := hide (Bel.then HB.out hb)
  clear hb
  cases x with
  | true =>
    obtain rfl := x1 rfl
    clear x1
    go_wp2_with fail
    refine (Q3.out _ HB.out).mono ?_
    rintro e w4 ⟨rfl, hb⟩
    replace HB := hide (Bel.then HB.out hb)
    clear hb
    go_wp2_with fail
    refine (Q4.out _ HB.out).mono ?_
    rintro e w5 ⟨rfl, hb⟩
    replace HB := hide (Bel.then HB.out hb)
    clear hb
    go_wp2_with fail
    go_ret
    exact ⟨rfl, HB.out⟩
  | false =>
    clear x1
    go_wp2_with fail
    refine (Q4.out _ HB.out).mono ?_
    rintro e w5 ⟨rfl, hb⟩
    replace HB := hide (Bel.then HB.out hb)
    clear hb
    go_wp2_with fail
    go_ret
    exact ⟨rfl, HB.out⟩
end Go.Proofs.Ytahdkfenpflahaa
