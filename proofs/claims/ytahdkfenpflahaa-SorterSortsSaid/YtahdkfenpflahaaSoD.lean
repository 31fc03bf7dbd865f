/- The contracts of a queue's empty, first and take, and of the closure that compares. -/
import Derived.Test.YtahdkfenpflahaaSoC
namespace Go.Proofs.Ytahdkfenpflahaa
set_option linter.unusedVariables false
open Go.ChangeShapes Go.WideShapes Go.ChangeAt Go.RowKit

/-- A queue in a block of its own. -/
def QBox (w : World) (g : Nat) (A : Option Addr) (n c : Nat) : Prop := w.heap[g]? = some (.cells #[.slice A n c] 63 (0, 0))
section
variable {w w' : World} {g n c : Nat} {A : Option Addr}
theorem QBox.lt (h : QBox w g A n c) : g < w.heap.size := (Array.getElem?_eq_some_iff.1 h).1
theorem QBox.kept (h : QBox w g A n c) (hb : Below w.heap.size w w') : QBox w' g A n c := (hb.block g h.lt).trans h
theorem QBox.cells (h : QBox w g A n c) : w.cell? ⟨g, 0, none⟩ = some (.slice A n c) ∧ w.frozen? ⟨g, 0, none⟩ = false := by
  refine ⟨cell_of_row w g 0 _ _ (0, 0) h, ?_⟩
  unfold QBox at h
  simp [World.frozen?, h]
theorem QBox.set (h : QBox w g A n c) (A2 : Option Addr) (n2 c2 : Nat) : QBox (w.setCell ⟨g, 0, none⟩ (.slice A2 n2 c2)) g A2 n2 c2 := by
  unfold QBox at *
  simp [World.setCell, Array.getElem?_modify, h]
theorem QBox.far (h : QBox w g A n c) {p : Addr} (hp : g ≠ p.block) (u : Value) : QBox (w.setCell p u) g A n c := (Below.heap_setCell w p u g hp).trans h
end
theorem empty_c (g n c : Nat) (A : Option Addr) (w : World) (h : QBox w g A n c) (hn : n ≤ 9223372036854775807) :
    Calls Try.prog 47 #[.pointer (some ⟨g, 0, none⟩)] w fun e w' => e = .returned (.bool (decide (n = 0))) ∧ w = w' := by
  obtain ⟨q, hq⟩ : ∃ q, decide (n = 0) = q := ⟨_, rfl⟩
  rw [hq]
  obtain ⟨h0, h1⟩ := h.cells
  have hz : ((n : Int) == 0) = q := by
    rw [← hq]
    by_cases e : n = 0
    · subst e; rfl
    · rw [decide_eq_false e, beq_eq_false_iff_ne]; omega
  have HQ := hide hq
  clear hq h
  go_enter Try.func47, Try.ntmps47
  go_wp2_with fail
  go_ret
  exact ⟨rfl, rfl⟩
theorem first_c (g n c : Nat) (A : Option Addr) (ps : List HRow) (w : World) (h : QBox w g A n c) (hs : HsAt w A n c ps) (p : HRow) (hp : ps[0]? = some p) :
    Calls Try.prog 48 #[.pointer (some ⟨g, 0, none⟩)] w fun e w' => e = .returned (hdV p) ∧ w = w' := by
  obtain ⟨h0, h1⟩ := h.cells
  have hn : 0 < n := by have := (List.getElem?_eq_some_iff.1 hp).1; have := hs.sl.len; omega
  have hni : (0 : Int) < n := by omega
  obtain ⟨b, off, q, rfl, hb, hq, hc⟩ := hs.cell hn
  rw [hp] at hq
  injection hq with hq
  subst hq
  rw [Nat.add_zero] at hc
  unfold hdV at *
  clear hs hp h
  go_enter Try.func48, Try.ntmps48
  go_wp2_with fail
  go_ret
  exact ⟨rfl, rfl⟩
theorem take_c (g n c : Nat) (A : Option Addr) (ps : List HRow) (w : World) (h : QBox w g A n c) (hs : HsAt w A n c ps) (p : HRow) (hp : ps[0]? = some p) :
    Calls Try.prog 49 #[.pointer (some ⟨g, 0, none⟩)] w fun e w' => e = .returned (hdV p) ∧ w' = w.setCell ⟨g, 0, none⟩ (.slice (sndA c 1 A) (n - 1) (c - 1)) := by
  obtain ⟨h0, h1⟩ := h.cells
  have hn : 0 < n := by have := (List.getElem?_eq_some_iff.1 hp).1; have := hs.sl.len; omega
  have hni : (0 : Int) < n := by omega
  obtain ⟨b, off, q, rfl, hb, hq, hc⟩ := hs.cell hn
  rw [hp] at hq
  injection hq with hq
  subst hq
  rw [Nat.add_zero] at hc
  have hr := fun W => back_run (A := some ⟨b, off, none⟩) (n := n) (c := c) (j := 1) hn W
  rw [show (((1 : Nat) : Int)) = 1 from rfl] at hr
  generalize sndA c 1 (some ⟨b, off, none⟩) = A1 at *
  generalize n - 1 = n1 at *
  generalize c - 1 = c1 at *
  unfold hdV at *
  clear hs hp h
  go_enter Try.func49, Try.ntmps49
  go_wp2_with fail
  go_ret
  exact ⟨rfl, rfl⟩
/-- What the closure of sorter.by holds: the keys, boxed. -/
def ByBox (w : World) (g : Nat) (A : Option Addr) (n c : Nat) : Prop := w.heap[g]? = some (.cells #[.slice A n c] 24 (0, 0))
theorem ByBox.kept {w w' : World} {g n c : Nat} {A : Option Addr} (h : ByBox w g A n c) (hb : Below w.heap.size w w') : ByBox w' g A n c := (hb.block g (Array.getElem?_eq_some_iff.1 h).1).trans h
theorem by1_c (g : Nat) (A A2 A3 : Option Addr) (n c n2 c2 n3 c3 : Nat) (r s : List ValV) (ks : List (Int × Bool)) (w : World) (h : RowAt w w.heap.size A n c r) (h2 : RowAt w w.heap.size A2 n2 c2 s) (hg : ByBox w g A3 n3 c3) (hk : KeysAt w w.heap.size A3 n3 c3 ks) :
    Calls Try.prog 42 #[.slice A n c, .slice A2 n2 c2, .pointer (some ⟨g, 0, none⟩)] w fun e w' => e = .returned (.bool (befB r s ks)) ∧ Below w.heap.size w w' := by
  have Q := hide (before_c A A2 A3 n c n2 c2 n3 c3 r s ks w h h2 hk)
  have h0 : w.cell? ⟨g, 0, none⟩ = some (.slice A3 n3 c3) := cell_of_row w g 0 _ _ (0, 0) hg
  clear h h2 hg hk
  go_enter Try.func42, Try.ntmps42
  go_wp2_with fail
  refine Q.out.mono ?_
  rintro e w' ⟨rfl, hb⟩
  go_wp2_with fail
  go_ret
  exact ⟨rfl, hb⟩
end Go.Proofs.Ytahdkfenpflahaa
