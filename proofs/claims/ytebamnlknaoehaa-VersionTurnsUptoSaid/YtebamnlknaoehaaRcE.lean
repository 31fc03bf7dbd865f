/- Contracts of the reader's values: a bool, a number. -/
import Derived.Test.YtebamnlknaoehaaRcD
import Derived.Test.YtebamnlknaoehaaMk
namespace Go.Proofs.Ytebamnlknaoehaa
set_option linter.unusedVariables false
open Go.ChangeShapes Go.WideShapes Go.ChangeAt Go.RowKit

theorem drop_str {s : ByteArray} {a : Nat} (h : a < s.size) : s.data.toList.drop a = s[a] :: s.data.toList.drop (a + 1) := by
  rw [List.drop_eq_getElem_cons (by rw [str_len]; exact h)]
  rfl
theorem drop_end {s : ByteArray} {a : Nat} (h : s.size ≤ a) : s.data.toList.drop a = [] := List.drop_eq_nil_of_le (by rw [str_len]; exact h)
/-- What a reading method gives. -/
def ReadsAs (g : Nat) (s : ByteArray) (w : World) : Got → Ending → World → Prop
  | .bad c, e, w' => ∃ v a', e = .returned (valAgg v) ∧ Leaves g s a' c w w'
  | .val v r, e, w' => ∃ a' : Nat, e = .returned (valAgg v) ∧ Leaves g s a' 0 w w' ∧ s.data.toList.drop a' = r ∧ a' ≤ s.size
theorem RdAt.lt {w : World} {g : Nat} {s : ByteArray} {a e : Int} (h : RdAt w g s a e) : g < w.heap.size := (Array.getElem?_eq_some_iff.1 h).1
theorem RdAt.alloc {w : World} {g : Nat} {s : ByteArray} {a e : Int} (h : RdAt w g s a e) (o : Obj) : RdAt (w.alloc o) g s a e := (Lib.alloc_old w o g h.lt).trans h
theorem Leaves.alloc {g : Nat} {s : ByteArray} {a e : Int} {w w1 : World} (h : Leaves g s a e w w1) (o : Obj) : Leaves g s a e w (w1.alloc o) := ⟨h.1.alloc o, h.2.trans (World.grownBy_alloc w1 o _)⟩
theorem Leaves.below {g : Nat} {s : ByteArray} {a e : Int} {w w1 w2 : World} (h : Leaves g s a e w w1) (hb : Below w1.heap.size w1 w2) : Leaves g s a e w w2 :=
  ⟨(hb.block g h.1.lt).trans h.1, h.2.trans ⟨hb.os, hb.tape, hb.output, hb.size, fun k hk _ => hb.block k hk⟩⟩
theorem Leaves.from {g : Nat} {s : ByteArray} {a e : Int} {w w1 : World} {o : Obj} (h : Leaves g s a e (w.alloc o) w1) : Leaves g s a e w w1 := ⟨h.1, (World.grownBy_alloc w o _).trans h.2⟩
theorem Leaves.box {g b : Nat} {s : ByteArray} {a e : Int} {w w1 : World} {v : ValV} (h : Leaves g s a e w w1) (hx : VBox w b v) (hne : b ≠ g) : VBox w1 b v :=
  (h.2.block b (Array.getElem?_eq_some_iff.1 hx).1 (by intro e; injection e with e; exact hne e)).trans hx
theorem Leaves.setBox {g : Nat} {s : ByteArray} {a e : Int} {w w1 : World} (h : Leaves g s a e w w1) {p : Addr} (hp : w.heap.size ≤ p.block) (hg : p.block ≠ g) (v : Value) : Leaves g s a e w (w1.setCell p v) := by
  refine ⟨?_, ⟨h.2.os, h.2.tape, h.2.output, by rw [World.size_setCell]; exact h.2.size, fun k hk hne => ?_⟩⟩
  · unfold RdAt
    rw [Below.heap_setCell _ _ _ _ (fun e => hg e.symm)]
    exact h.1
  · rw [Below.heap_setCell _ _ _ _ (fun e => by omega)]
    exact h.2.block k hk hne
theorem VBox.all {w : World} {g : Nat} {v : ValV} (h : VBox w g v) : w.cell? ⟨g, 0, none⟩ = some (.int .i64 v.kind) ∧ w.cell? ⟨g, 1, none⟩ = some (.int .i64 v.num) ∧ w.cell? ⟨g, 2, none⟩ = some (.string v.str) ∧ w.frozen? ⟨g, 0, none⟩ = false ∧ w.frozen? ⟨g, 1, none⟩ = false ∧ w.frozen? ⟨g, 2, none⟩ = false :=
  ⟨Lib.cell_of_heap h 0, Lib.cell_of_heap h 1, Lib.cell_of_heap h 2, Lib.frozen_of_heap h 0, Lib.frozen_of_heap h 1, Lib.frozen_of_heap h 2⟩
theorem VBox.set3 {w : World} {b : Nat} {v : ValV} (h : VBox w b v) (k n : Int) (t : ByteArray) : VBox (((w.setCell ⟨b, 0, none⟩ (.int .i64 k)).setCell ⟨b, 1, none⟩ (.int .i64 n)).setCell ⟨b, 2, none⟩ (.string t)) b ⟨k, n, t⟩ := by
  unfold VBox at *
  simp [World.setCell, Array.getElem?_modify, h]
theorem Leaves.set3 {g b : Nat} {s : ByteArray} {a e : Int} {w w1 : World} (h : Leaves g s a e w w1) (hp : w.heap.size ≤ b) (hg : b ≠ g) (x y z : Value) : Leaves g s a e w (((w1.setCell ⟨b, 0, none⟩ x).setCell ⟨b, 1, none⟩ y).setCell ⟨b, 2, none⟩ z) :=
  ((h.setBox (p := ⟨b, 0, none⟩) hp hg x).setBox (p := ⟨b, 1, none⟩) hp hg y).setBox (p := ⟨b, 2, none⟩) hp hg z
theorem end_val {f : Func} {p : Tmp} (hf : f.results = #[.cell p 49]) {a : Act} {w : World} {b : Nat} {v : ValV} {Q : Ending → World → Prop} (hp : a.tmps.getD p undef = .pointer (some ⟨b, 0, none⟩)) (hd : a.defers = []) (hx : VBox w b v) (hq : Q (.returned (valAgg v)) w) : bodyPost Try.prog f Q .ret a w :=
  bodyPost_ret (v := valAgg v) (results_cell_row hf _ _ b 49 _ (0, 0) _ hp hx Try.underlying49 rfl (by kernel_rfl)) hd hq
def null : ValV := ⟨0, 0, { data := #[] }⟩
theorem boolean_c (g : Nat) (s : ByteArray) (a : Nat) (w : World) (h : RdAt w g s a 0) (ha : a ≤ s.size) (hm : s.size ≤ 4611686018427387904) :
    Calls Try.prog 57 #[.pointer (some ⟨g, 0, none⟩)] w (ReadsAs g s w (boolG (s.data.toList.drop a))) := by
  have hgl := h.lt
  by_cases hlt : a < s.size
  · have Q := hide (fun (o : Obj) => oct_ok g s a (w.alloc o) (h.alloc o) hlt hm)
    have hc := s[a].toNat_lt
    rw [drop_str hlt, boolG_cons]
    generalize hd : s.data.toList.drop (a + 1) = r at *
    have HD := hide hd
    clear h hd
    generalize s[a].toNat = z at *
    by_cases hb : z ≤ 1
    · rw [if_pos hb]
      go_enter Try.func57, Try.ntmps57
      go_wp2_with fail
      refine (Q.out _).mono ?_
      rintro e w1 ⟨rfl, h1⟩
      obtain ⟨k0, k1, k2, y0, y1, y2⟩ := (h1.box (vbox_new w null) (by omega)).all
      simp only [null] at k0 k1 k2
      have HX := hide (h1.box (vbox_new w null) (by omega))
      have H1 := hide h1.from
      clear h1 Q
      go_wp2_with fail
      exact end_val Try.results57 rfl rfl (HX.out.set3 1 z _) ⟨a + 1, rfl, H1.out.set3 (Nat.le_refl _) (by omega) _ _ _, HD.out, hlt⟩
    · rw [if_neg hb]
      go_enter Try.func57, Try.ntmps57
      go_wp2_with fail
      refine (Q.out _).mono ?_
      rintro e w1 ⟨rfl, h1⟩
      have HX := hide (h1.box (vbox_new w null) (by omega))
      have H1 := hide h1.from
      have Q2 := hide (fail_yes g s _ 2 w1 h1.1)
      clear h1 Q
      go_wp2_with fail
      refine Q2.out.mono ?_
      rintro e w2 ⟨rfl, h2⟩
      obtain ⟨k0, k1, k2, y0, y1, y2⟩ := (h2.box HX.out (by omega)).all
      simp only [null] at k0 k1 k2
      have HX2 := hide (h2.box HX.out (by omega))
      have H2 := hide (H1.out.then h2)
      clear h2 Q2 H1
      go_wp2_with fail
      exact end_val Try.results57 rfl rfl (HX2.out.set3 1 z _) ⟨_, _, rfl, H2.out.set3 (Nat.le_refl _) (by omega) _ _ _⟩
  · have Q := hide (fun (o : Obj) => oct_short g s a (w.alloc o) (h.alloc o) (by omega))
    rw [drop_end (by omega)]
    clear h
    go_enter Try.func57, Try.ntmps57
    go_wp2_with fail
    refine (Q.out _).mono ?_
    rintro e w1 ⟨rfl, h1⟩
    obtain ⟨k0, k1, k2, y0, y1, y2⟩ := (h1.box (vbox_new w null) (by omega)).all
    simp only [null] at k0 k1 k2
    have HX := hide (h1.box (vbox_new w null) (by omega))
    have H1 := hide h1.from
    clear h1 Q
    go_wp2_with fail
    exact end_val Try.results57 rfl rfl (HX.out.set3 1 0 _) ⟨_, _, rfl, H1.out.set3 (Nat.le_refl _) (by omega) _ _ _⟩
end Go.Proofs.Ytebamnlknaoehaa
