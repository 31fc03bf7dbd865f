/- The contracts of disk.Read and ReadPage, and of the reference's. -/
import Derived.Test.YtdfpmjfnlcccaaaDkC
namespace Go.Proofs.Ytdfpmjfnlcccaaa
set_option linter.unusedVariables false
open Go.ChangeShapes Go.WideShapes Go.ChangeAt Go.RowKit

def GivesR (w : World) (x : ByteArray × Int) (e : Ending) (w' : World) : Prop := e = .returned (.tuple #[.string x.1, .int .i64 x.2]) ∧ Below w.heap.size w w'
theorem readD_cases (d : DiskV) (at' : Int) : (d.down = true ∧ readD d at' = (.empty, 20)) ∨ (d.down = false ∧ at' < 0 ∧ readD d at' = (.empty, 1)) ∨ (d.down = false ∧ 0 ≤ at' ∧ (d.secs.length : Int) ≤ at' ∧ readD d at' = (.empty, 1)) ∨
    (d.down = false ∧ ∃ (k : Nat) (h : k < d.secs.length), at' = k ∧ readD d at' = (d.secs[k], 0)) := by
  unfold readD
  cases hd : d.down with
  | true => left; exact ⟨rfl, by rw [if_pos rfl]⟩
  | false =>
    right
    rw [if_neg (by simp)]
    by_cases h1 : at' < 0
    · left; exact ⟨rfl, h1, by rw [if_pos (.inl h1)]⟩
    · right
      by_cases h2 : (d.secs.length : Int) ≤ at'
      · left; exact ⟨rfl, by omega, h2, by rw [if_pos (.inr h2)]⟩
      · right
        rw [if_neg (by omega)]
        refine ⟨rfl, at'.toNat, by omega, by omega, ?_⟩
        rw [List.getD_eq_getElem?_getD, List.getElem?_eq_getElem (by omega)]
        rfl
set_option maxRecDepth 100000 in
set_option maxHeartbeats 1000000 in
theorem Read_c (A : Option Addr) (n c : Nat) (d : DiskV) (at' : Int) (w : World) (h : SlAt stC 1 w w.heap.size A n c d.secs) (hn : n ≤ 1048576) :
    Calls Try.prog 13 #[diskAgg A n c d.left d.down, .int .i64 at'] w (GivesR w (readD d at')) := by
  have hlen := h.len
  have H := hide (h.kept (Bel.one w (.cells #[.slice A n c, .int .i64 d.left, .bool d.down] 25)))
  rcases readD_cases d at' with ⟨h0, hr⟩ | ⟨h0, h1, hr⟩ | ⟨h0, h1, h2, hr⟩ | ⟨h0, k, h2, rfl, hr⟩
  · rw [hr, h0]
    unfold diskAgg
    clear h hr h0 hlen H
    go_enter Try.func13, Try.ntmps13
    go_wp2_with fail
    go_ret2
    exact ⟨rfl, Bel.one _ _⟩
  · rw [hr, h0]
    unfold diskAgg
    clear h hr h0 hlen H
    go_enter Try.func13, Try.ntmps13
    go_wp2_with fail
    go_ret2
    exact ⟨rfl, Bel.one _ _⟩
  · rw [hr, h0]
    unfold diskAgg
    rw [hlen] at h2
    have h1' : ¬ at' < 0 := by omega
    clear h hr h0 hlen H
    go_enter Try.func13, Try.ntmps13
    go_wp2_with fail
    go_ret2
    exact ⟨rfl, Bel.one _ _⟩
  · obtain ⟨b, off, x, rfl, _, hx, hc⟩ := H.out.at (by omega) (show k < n by omega)
    have hxx : d.secs[k] = x := by rw [List.getElem?_eq_getElem h2] at hx; injection hx
    rw [hr, h0, hxx]
    have hl0 := hc 0 _ rfl
    rw [Nat.add_zero, Nat.mul_one, h0] at hl0
    have hkn : k < n := by omega
    unfold diskAgg
    clear h hr h0 hlen H hx hxx hc
    go_enter Try.func13, Try.ntmps13
    go_wp2_with fail
    go_ret2
    exact ⟨rfl, Bel.one _ _⟩
theorem Is_c (A : Option Addr) (n c : Nat) (x : Int) (b : Bool) (at' : Int) (w : World) (hn : n ≤ 1048576) :
    Calls Try.prog 28 #[diskAgg A n c x b, .int .i64 at'] w fun e w' => e = .returned (.bool (decide (0 ≤ at' ∧ at' < n))) ∧ Below w.heap.size w w' := by
  unfold diskAgg
  rcases (show at' < 0 ∨ (0 ≤ at' ∧ at' < (n : Int)) ∨ (0 ≤ at' ∧ ¬ at' < (n : Int)) by omega) with h | ⟨h, h2⟩ | ⟨h, h2⟩
  · rw [show decide (0 ≤ at' ∧ at' < (n : Int)) = false by simp; omega]
    have h' : ¬ 0 ≤ at' := by omega
    clear h
    go_enter Try.func28, Try.ntmps28
    go_wp2_with fail
    go_ret
    exact ⟨rfl, Bel.one _ _⟩
  · rw [show decide (0 ≤ at' ∧ at' < (n : Int)) = true by simp; omega]
    go_enter Try.func28, Try.ntmps28
    go_wp2_with fail
    go_ret
    exact ⟨rfl, Bel.one _ _⟩
  · rw [show decide (0 ≤ at' ∧ at' < (n : Int)) = false by simp; omega]
    go_enter Try.func28, Try.ntmps28
    go_wp2_with fail
    go_ret
    exact ⟨rfl, Bel.one _ _⟩
set_option maxRecDepth 100000 in
set_option maxHeartbeats 1000000 in
theorem rRead_c (A : Option Addr) (n c : Nat) (d : DiskV) (at' : Int) (w : World) (h : SlAt stC 1 w w.heap.size A n c d.secs) (hn : n ≤ 1048576) :
    Calls Try.prog 14 #[diskAgg A n c d.left d.down, .int .i64 at'] w (GivesR w (readD d at')) := by
  have hlen := h.len
  have H := hide (h.kept (Bel.one w (.cells #[.slice A n c, .int .i64 d.left, .bool d.down] 25)))
  have QI := hide (fun W => Is_c A n c d.left d.down at' W hn)
  rcases readD_cases d at' with ⟨h0, hr⟩ | ⟨h0, h1, hr⟩ | ⟨h0, h1, h2, hr⟩ | ⟨h0, k, h2, rfl, hr⟩
  · rw [hr, h0]
    unfold diskAgg
    clear h hr h0 hlen H QI
    go_enter Try.func14, Try.ntmps14
    go_wp2_with fail
    go_ret2
    exact ⟨rfl, Bel.one _ _⟩
  · rw [hr, h0]
    rw [show decide (0 ≤ at' ∧ at' < (n : Int)) = false by simp; omega, h0] at QI
    unfold diskAgg at *
    clear h hr h0 hlen H
    go_enter Try.func14, Try.ntmps14
    go_wp2_with fail
    refine (QI.out _).mono ?_
    rintro e w1 ⟨rfl, hb⟩
    have HB := hide (Bel.then (Bel.one _ _) hb)
    clear hb QI
    go_wp2_with fail
    go_ret2
    exact ⟨rfl, HB.out⟩
  · rw [hr, h0]
    rw [hlen] at h2
    rw [show decide (0 ≤ at' ∧ at' < (n : Int)) = false by simp; omega, h0] at QI
    unfold diskAgg at *
    clear h hr h0 hlen H
    go_enter Try.func14, Try.ntmps14
    go_wp2_with fail
    refine (QI.out _).mono ?_
    rintro e w1 ⟨rfl, hb⟩
    have HB := hide (Bel.then (Bel.one _ _) hb)
    clear hb QI
    go_wp2_with fail
    go_ret2
    exact ⟨rfl, HB.out⟩
  · have D0 := hide (dbox_new w (.slice A n c) d.left d.down)
    have hkn : k < n := by omega
    rw [show decide (0 ≤ (k : Int) ∧ (k : Int) < (n : Int)) = true by simp; omega, h0] at QI
    rw [hr, h0]
    rw [h0] at H D0
    have HK := hide h2
    generalize hz : d.secs[k] = z at *
    have HZ := hide (show d.secs[k]? = some z by rw [List.getElem?_eq_getElem h2]; exact congrArg some hz)
    unfold diskAgg at *
    clear h hr h0 hlen hz h2
    go_enter Try.func14, Try.ntmps14
    go_wp2_with fail
    refine (QI.out _).mono ?_
    rintro e w1 ⟨rfl, hb⟩
    obtain ⟨b, off, x, rfl, _, hx, hc⟩ := (H.out.kept hb).at (by omega) hkn
    have hxx : x = z := by have := HZ.out; rw [hx] at this; injection this
    subst hxx
    have hl0 := hc 0 _ rfl
    rw [Nat.add_zero, Nat.mul_one] at hl0
    obtain ⟨c0, c1, c2, f0, f1, f2⟩ := (D0.out.kept hb).cells
    have HB := hide (Bel.then (Bel.one _ _) hb)
    clear hb QI hc hx H HZ HK D0
    go_wp2_with fail
    go_ret2
    exact ⟨rfl, HB.out⟩
end Go.Proofs.Ytdfpmjfnlcccaaa
