/- Contracts of the reader's methods. -/
import Derived.Test.YtebamnlknaoehaaRcC
import Derived.BigRegion
namespace Go.Proofs.Ytebamnlknaoehaa
set_option linter.unusedVariables false
open Go.ChangeShapes Go.WideShapes Go.ChangeAt Go.RowKit

/-- A reader in a block of its own. -/
def RdAt (w : World) (g : Nat) (s : ByteArray) (at_ err : Int) : Prop := w.heap[g]? = some (.cells #[.string s, .int .i64 at_, .int .i64 err] 74 (0, 0))
theorem RdAt.cells {w : World} {g : Nat} {s : ByteArray} {a e : Int} (h : RdAt w g s a e) : w.cell? ⟨g, 0, none⟩ = some (.string s) ∧ w.cell? ⟨g, 1, none⟩ = some (.int .i64 a) ∧ w.cell? ⟨g, 2, none⟩ = some (.int .i64 e) ∧ w.frozen? ⟨g, 1, none⟩ = false ∧ w.frozen? ⟨g, 2, none⟩ = false :=
  ⟨Lib.cell_of_heap h 0, Lib.cell_of_heap h 1, Lib.cell_of_heap h 2, Lib.frozen_of_heap h 1, Lib.frozen_of_heap h 2⟩
theorem RdAt.setAt {w : World} {g : Nat} {s : ByteArray} {a e : Int} (h : RdAt w g s a e) (b : Int) : RdAt (w.setCell ⟨g, 1, none⟩ (.int .i64 b)) g s b e := by
  unfold RdAt at *
  simp [World.setCell, Array.getElem?_modify, h]
theorem RdAt.setErr {w : World} {g : Nat} {s : ByteArray} {a e : Int} (h : RdAt w g s a e) (b : Int) : RdAt (w.setCell ⟨g, 2, none⟩ (.int .i64 b)) g s a b := by
  unfold RdAt at *
  simp [World.setCell, Array.getElem?_modify, h]
theorem grown_set (w : World) (g o : Nat) (v : Value) : w.grownBy (w.setCell ⟨g, o, none⟩ v) (some g) :=
  ⟨rfl, rfl, rfl, by simp [World.setCell], fun k _ hk => Below.heap_setCell _ _ _ _ (fun e => hk (by simp [e]))⟩
/-- What a method leaves. -/
def Leaves (g : Nat) (s : ByteArray) (a e : Int) (w w' : World) : Prop := RdAt w' g s a e ∧ w.grownBy w' (some g)
theorem Leaves.then {g : Nat} {s : ByteArray} {a e a2 e2 : Int} {w w1 w2 : World} (h : Leaves g s a e w w1) (k : Leaves g s a2 e2 w1 w2) : Leaves g s a2 e2 w w2 := ⟨k.1, h.2.trans k.2⟩
theorem leaves_refl {g : Nat} {s : ByteArray} {a e : Int} {w : World} (h : RdAt w g s a e) : Leaves g s a e w w := ⟨h, World.grownBy.refl w _⟩
theorem Leaves.setErr {g : Nat} {s : ByteArray} {a e : Int} {w w1 : World} (h : Leaves g s a e w w1) (b : Int) : Leaves g s a b w (w1.setCell ⟨g, 2, none⟩ (.int .i64 b)) := ⟨h.1.setErr b, h.2.trans (grown_set _ _ _ _)⟩
theorem Leaves.setAt {g : Nat} {s : ByteArray} {a e : Int} {w w1 : World} (h : Leaves g s a e w w1) (b : Int) : Leaves g s b e w (w1.setCell ⟨g, 1, none⟩ (.int .i64 b)) := ⟨h.1.setAt b, h.2.trans (grown_set _ _ _ _)⟩
theorem Leaves.drew {g : Nat} {s : ByteArray} {a e : Int} {w w1 : World} (h : Leaves g s a e w w1) : Leaves g s a e w w1.drew := ⟨h.1, ⟨h.2.os, h.2.tape, h.2.output, h.2.size, h.2.block⟩⟩
theorem fail_no (g : Nat) (s : ByteArray) (a err x : Int) (w : World) (h : RdAt w g s a err) (he : err ≠ 0) :
    Calls Try.prog 43 #[.pointer (some ⟨g, 0, none⟩), .int .i64 x] w fun e w' => e = .returned (.tuple #[]) ∧ Leaves g s a err w w' := by
  obtain ⟨c0, c1, c2, z1, z2⟩ := h.cells
  have H := hide h
  clear h
  have hx : (err == 0) = false := by simpa using he
  go_enter Try.func43, Try.ntmps43
  go_wp2
  go_end0
  exact ⟨rfl, leaves_refl H.out⟩
theorem fail_yes (g : Nat) (s : ByteArray) (a x : Int) (w : World) (h : RdAt w g s a 0) :
    Calls Try.prog 43 #[.pointer (some ⟨g, 0, none⟩), .int .i64 x] w fun e w' => e = .returned (.tuple #[]) ∧ Leaves g s a x w w' := by
  obtain ⟨c0, c1, c2, z1, z2⟩ := h.cells
  have H := hide h
  clear h
  go_enter Try.func43, Try.ntmps43
  go_wp2
  go_end0
  exact ⟨rfl, (leaves_refl H.out).setErr x⟩
theorem oct_err (g : Nat) (s : ByteArray) (a err : Int) (w : World) (h : RdAt w g s a err) (he : err ≠ 0) :
    Calls Try.prog 42 #[.pointer (some ⟨g, 0, none⟩)] w fun e w' => e = .returned (.int .i64 0) ∧ Leaves g s a err w w' := by
  obtain ⟨c0, c1, c2, z1, z2⟩ := h.cells
  have H := hide h
  clear h
  have hx : (err == 0) = false := by simpa using he
  go_enter Try.func42, Try.ntmps42
  go_wp2
  go_ret
  exact ⟨rfl, leaves_refl H.out⟩
theorem oct_short (g : Nat) (s : ByteArray) (a : Nat) (w : World) (h : RdAt w g s a 0) (ha : s.size ≤ a) :
    Calls Try.prog 42 #[.pointer (some ⟨g, 0, none⟩)] w fun e w' => e = .returned (.int .i64 0) ∧ Leaves g s a 3 w w' := by
  obtain ⟨c0, c1, c2, z1, z2⟩ := h.cells
  have H := hide h
  have Q := hide (fun W hW => fail_yes g s a 3 W hW)
  clear h
  have hx : (s.size : Int) ≤ a := by omega
  go_enter Try.func42, Try.ntmps42
  go_wp2_with fail
  go_region
  have H2 := hide (show RdAt w.drew g s a 0 from H.out)
  go_wp2_with fail
  refine (Q.out _ H2.out).mono ?_
  rintro e w1 ⟨rfl, h1⟩
  have H1 := hide h1
  clear h1
  go_wp2_with fail
  go_ret
  exact ⟨rfl, ⟨H1.out.1, ⟨H1.out.2.os, H1.out.2.tape, H1.out.2.output, H1.out.2.size, H1.out.2.block⟩⟩⟩
theorem oct_ok (g : Nat) (s : ByteArray) (a : Nat) (w : World) (h : RdAt w g s a 0) (ha : a < s.size) (hm : s.size ≤ 4611686018427387904) :
    Calls Try.prog 42 #[.pointer (some ⟨g, 0, none⟩)] w fun e w' => e = .returned (.int .i64 (s[a].toNat : Int)) ∧ Leaves g s ((a + 1 : Nat) : Int) 0 w w' := by
  obtain ⟨c0, c1, c2, z1, z2⟩ := h.cells
  have H := hide h
  clear h
  have hx : (a : Int) < s.size := by omega
  have hw : IntKind.i64.wrap ((a : Int) + 1) = ((a + 1 : Nat) : Int) := by rw [IntWalk.i64_in _ (by omega)]; omega
  go_enter Try.func42, Try.ntmps42
  go_wp2_with fail
  go_region
  go_wp2_with fail
  go_region
  go_wp2_with fail
  go_ret
  refine ⟨ret_int (by have := s[a].toNat_lt; unfold wrap64; omega), ?_⟩
  · exact (((leaves_refl H.out).setAt _).drew).drew
end Go.Proofs.Ytebamnlknaoehaa
