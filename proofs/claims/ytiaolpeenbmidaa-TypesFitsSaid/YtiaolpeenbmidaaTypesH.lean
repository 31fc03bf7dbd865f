/- The walks of the laws on package types. -/
import Derived.Test.YtiaolpeenbmidaaTypesG
namespace Go.Proofs.Ytiaolpeenbmidaa
set_option linter.unusedVariables false
open Go.ChangeShapes Go.WideShapes Go.ChangeAt Go.RowKit

theorem drewN_dot {B : Nat} {a w : World} (h : Below B a w) (n : Nat) : Below B a (w.drewN n) := ⟨h.os, h.tape, h.output, h.size, h.block⟩
theorem ops_far (op : Int) (A : Option Addr) (n c : Nat) (w : World) (hm : 100 < n) (hn : n ≤ maxLen) :
    Calls Try.prog 3 #[.int .i64 op, .slice A n c] w fun e w' => e = .returned (.bool true) ∧ Below w.heap.size w w' := by
  unfold maxLen at hn
  have h1 : (100 : Int) < (n : Int) := by omega
  go_enter Try.func3, Try.ntmps3
  go_wp2_with (first | (go_at_call 8; refine (awake_c _).mono ?_; rintro e w' ⟨rfl, hb⟩))
  go_ret
  exact ⟨rfl, hb⟩
set_option maxHeartbeats 1000000 in
theorem ops_w (op : Int) (A : Option Addr) (n c : Nat) (zs : List Int) (w : World) (hz : Ints w w.heap.size A n zs) (hm : n ≤ 100) (hnc : n ≤ c) (hA : A = none → n = 0) :
    Calls Try.prog 3 #[.int .i64 op, .slice A n c] w fun e w' => e = .returned (.bool true) ∧ Below w.heap.size w w' := by
  have HZ := hide hz
  have HA := hide hA
  clear hz hA
  have h1 : ¬ (100 : Int) < (n : Int) := by omega
  go_enter Try.func3, Try.ntmps3
  go_wp2_with fail
  refine (op_c op A n c zs _ HZ.out (by omega) hnc HA.out).mono ?_
  rintro e w1 ⟨rfl, hb1⟩
  have HZ1 := hide (Ints.kept HZ.out hb1)
  go_wp2_with fail
  refine (rop_c op A n c zs _ HZ1.out (by omega) hnc HA.out).mono ?_
  rintro e w2 ⟨rfl, hb2⟩
  have HZ2 := hide (Ints.kept HZ1.out hb2)
  have HB := hide (Bel.then hb1 hb2)
  clear hb1 hb2 HZ HZ1
  generalize opI op zs = p at *
  go_wp2_with fail
  go_loopw [9, 10, 11, 12, 13] (fun i _ _ _ _ wr => ∃ k : Nat, 1 ≤ k ∧ k ≤ n + 1 ∧ i = .int .i64 k ∧ Hid (Below w2.heap.size w2 wr)) (fun i _ _ _ _ _ => n + 1 - (intOf i).toNat)
  case atStart => exact ⟨1, by omega, by omega, rfl, Below.refl _ _⟩
  case round =>
    obtain ⟨k, hk1, hk, rfl, HW⟩ := hrel
    by_cases hlt : k < n
    · obtain ⟨j, rfl⟩ : ∃ j, k = j + 1 := ⟨k - 1, by omega⟩
      have hI := HZ2.out.below HW.out
      obtain ⟨g, off, x, rfl, _, hx, _, _⟩ := hI.get (k := j) (by omega)
      obtain ⟨g', off', y, e', _, hy, _, _⟩ := hI.get (k := j + 1) (by omega)
      injection e' with e'
      injection e' with e1 e2
      subst e1 e2
      clear hI
      have t1 : ∀ y : Int, (y != y) = false := fun y => by simp
      have t2 : ∀ b : Bool, (b != b) = false := fun b => by simp
      go_wp2_with fail
      go_quiet ((go_at_call 11; exact quiet_l (join_c _ _ _)))
      have hx1 : (wr.drewN nq).cell? ⟨g, off + j, none⟩ = some (.int .i64 x) := hx
      have hy1 : (wr.drewN nq).cell? ⟨g, off + (j + 1), none⟩ = some (.int .i64 y) := hy
      have HW1 := hide (drewN_dot HW.out nq)
      clear hx hy HW
      generalize wr.drewN nq = wq at *
      go_wp2_with fail
      go_quiet ((go_at_call 12; exact quiet_l (rjoin_c _ _ _)))
      have HW2 := hide (drewN_dot HW1.out nq)
      generalize wq.drewN nq = wz at *
      go_wp2_with fail
      go_roundw
      case rel => exact ⟨j + 1 + 1, by omega, by omega, by go_num, HW2.out⟩
      case measure => simp [intOf]; omega
    · go_wp2_with (first | (go_at_call 8; refine (awake_c _).mono ?_; rintro e w' ⟨rfl, hb⟩))
      go_ret
      exact ⟨rfl, Bel.then (HB.out.trans (HW.out.mono HB.out.size)) hb⟩
theorem named_far (name : ByteArray) (k : Int) (A : Option Addr) (n c : Nat) (w : World) (hm : 100 < n) (hn : n ≤ maxLen) :
    Calls Try.prog 4 #[.string name, .slice A n c, .int .i64 k] w fun e w' => e = .returned (.bool true) ∧ Below w.heap.size w w' := by
  unfold maxLen at hn
  have h1 : (100 : Int) < (n : Int) := by omega
  go_enter Try.func4, Try.ntmps4
  go_wp2_with (first | (go_at_call 8; refine (awake_c _).mono ?_; rintro e w' ⟨rfl, hb⟩))
  go_ret
  exact ⟨rfl, hb⟩
set_option maxHeartbeats 1000000 in
theorem named_w (name : ByteArray) (k : Int) (A : Option Addr) (n c : Nat) (zs : List Int) (w : World) (hz : Ints w w.heap.size A n zs) (hm : n ≤ 100) :
    Calls Try.prog 4 #[.string name, .slice A n c, .int .i64 k] w fun e w' => e = .returned (.bool true) ∧ Below w.heap.size w w' := by
  have HZ := hide hz
  clear hz
  have h1 : ¬ (100 : Int) < (n : Int) := by omega
  have t1 : ∀ y : Int, (y == y) = true := fun y => by simp
  go_enter Try.func4, Try.ntmps4
  go_wp2_with fail
  refine (func_c name A n c zs _ _ HZ.out (by omega)).mono ?_
  rintro e w1 ⟨rfl, rfl⟩
  go_wp2_with fail
  refine (rfunc_c name A n c zs _ _ HZ.out (by omega)).mono ?_
  rintro e w1 ⟨rfl, rfl⟩
  go_wp2_with fail
  refine (agg_c name k _).mono ?_
  rintro e w1 ⟨rfl, hb1⟩
  have HB := hide hb1
  clear hb1
  go_wp2_with fail
  refine (ragg_c name k _).mono ?_
  rintro e w1 ⟨rfl, rfl⟩
  go_wp2_with (first | (go_at_call 8; refine (awake_c _).mono ?_; rintro e w' ⟨rfl, hb⟩))
  go_ret
  exact ⟨rfl, Bel.then HB.out hb⟩
end Go.Proofs.Ytiaolpeenbmidaa
