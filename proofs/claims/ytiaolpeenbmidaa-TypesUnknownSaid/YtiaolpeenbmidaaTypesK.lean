/- The walk of the law on kinds that are not known. -/
import Derived.Test.YtiaolpeenbmidaaTypesJ
import Derived.Test.YtiaolpeenbmidaaLib2
namespace Go.Proofs.Ytiaolpeenbmidaa
set_option linter.unusedVariables false
open Go.ChangeShapes Go.WideShapes Go.ChangeAt Go.RowKit

theorem unknown_far (op : Int) (name : ByteArray) (A : Option Addr) (n c : Nat) (w : World) (hm : 40 < n) (hn : n ≤ maxLen) :
    Calls Try.prog 6 #[.int .i64 op, .string name, .slice A n c] w fun e w' => e = .returned (.bool true) ∧ Below w.heap.size w w' := by
  unfold maxLen at hn
  have h1 : (40 : Int) < (n : Int) := by omega
  go_enter Try.func6, Try.ntmps6
  go_wp2_with (first | (go_at_call 8; refine (awake_c _).mono ?_; rintro e w' ⟨rfl, hb⟩))
  go_ret
  exact ⟨rfl, hb⟩
/-- How the last test of a round is decided. -/
theorem kept_cases {p q : Int × Int} (h : Kept p q) : ((q.2 == 0) = false) ∨ ((q.2 == 0) = true ∧ p.2 = 0 ∧ p.1 = q.1) ∨ ((q.2 == 0) = true ∧ p.2 = 0 ∧ (p.1 != q.1) = true ∧ p.1 = 0) := by
  by_cases h0 : q.2 = 0
  · obtain ⟨h1, h2⟩ := h h0
    right
    by_cases h3 : p.1 = q.1
    · left; exact ⟨by simp [h0], h1, h3⟩
    · right; exact ⟨by simp [h0], h1, by simp [h3], by omega⟩
  · left; simp [h0]
set_option maxHeartbeats 4000000 in
theorem unknown_w (op : Int) (name : ByteArray) (A : Option Addr) (n c : Nat) (zs : List Int) (w : World) (hz : Ints w w.heap.size A n zs) (hm : n ≤ 40) (hnc : n ≤ c) (hA : A = none → n = 0) :
    Calls Try.prog 6 #[.int .i64 op, .string name, .slice A n c] w fun e w' => e = .returned (.bool true) ∧ Below w.heap.size w w' := by
  obtain ⟨i0, hi0, hz0, hz1, hz2⟩ := info_parts int_info
  obtain rfl := hz.1
  have HZ := hide hz
  have HA := hide hA
  clear hz hA
  have h1 : ¬ (40 : Int) < (zs.length : Int) := by omega
  go_enter Try.func6, Try.ntmps6
  go_wp2_with fail
  refine (op_c op A zs.length c zs _ HZ.out (by omega) hnc HA.out).mono ?_
  rintro e w1 ⟨rfl, hb1⟩
  have HZ1 := hide (Ints.kept HZ.out hb1)
  go_wp2_with fail
  refine (func_c name A zs.length c zs _ _ HZ1.out (by omega)).mono ?_
  rintro e w' ⟨rfl, rfl⟩
  have HB := hide hb1
  clear hb1
  have KO := hide (fun k => kept_cases (kept_op (op := op) (weak_set zs k)))
  have KF := hide (fun k => kept_cases (kept_func (name := name) (n := zs.length) (weak_set zs k)))
  generalize opI op zs = p at *
  generalize funcI name zs.length zs = q at *
  obtain ⟨pa, pe⟩ := p
  obtain ⟨qa, qe⟩ := q
  simp only at KO KF
  go_wp2_with fail
  go_loopw [11, 12, 13, 14, 15, 16] (fun i _ _ _ _ _ wr => ∃ k : Nat, k ≤ zs.length ∧ i = .int .i64 k ∧ Hid (Below w1.heap.size w1 wr)) (fun i _ _ _ _ _ _ => zs.length - (intOf i).toNat)
  case atStart => exact ⟨0, by omega, rfl, Below.refl _ _⟩
  case round =>
    obtain ⟨k, hk, rfl, HW⟩ := hrel
    by_cases hlt : k < zs.length
    · have KO := hide (KO.out k)
      have KF := hide (KF.out k)
      have hI := HZ1.out.below HW.out
      have hA2 := HA.out
      go_wp2_with (first
        | (at_builtin; refine wpList_app rfl (.tmp 39) (.tmp 40) 22 rfl w1.heap.size 3 i0 _ 1 8 Try.underlying22 hi0 hz0 hz1 hz2 rfl (by omega) _ 0 [] rfl (World.ownsRow_lit _ _ 0 HW.out.size (by simp only [maxLen]; omega) rfl) w1.heap.size A zs.length c (zs.map (.int .i64)) rfl (by simp) (hI.2.below ((Below.refl _ _).alloc HW.out.size _)) (by simp [Value.oneCell']) (by simp only [maxLen]; omega) (by omega) (by have := HW.out.size; simp; omega) HA.out ?_; intro v1 w2 hown1 hg1 hat1
           have HW1 := hide (((Below.refl w1.heap.size wr).alloc HW.out.size (.cells #[] 3)).grown hg1 (by have := HW.out.size; simp; omega) (own_new _ _ _ _ HW.out.size))
           obtain ⟨g, cap, rfl, hcap, hg⟩ := own_some hown1 (by omega)
           simp only [Nat.zero_add, List.nil_append] at hown1
           have hcell := own_cell hown1 (k := k) (u := .int .i64 (zs.getD k 0)) (by simp [hlt])
           have hfr := hown1.frozenAt k
           have hst := (hown1.stored k (.int .i64 0)).1
           rw [show (zs.map (Value.int .i64)).set k (.int .i64 0) = (zs.set k 0).map (.int .i64) from by rw [List.map_set]] at hst
           have HST := hide (own_ints hst)
           have HW2 := hide (Below.setCell HW1.out (p := ⟨g, k, none⟩) (by simpa using hg) (.int .i64 0))
           clear hown1 hg1 hat1 hst)
        | fail)
      have HW3 := hide (HW.out.trans HW2.out)
      refine (op_c op _ zs.length cap (zs.set k 0) _ HST.out (by omega) (by omega) (fun h => by cases h)).mono ?_
      rintro e w3 ⟨rfl, hb3⟩
      have HST3 := hide (Ints.kept HST.out hb3)
      have HW4 := hide (HW3.out.trans (hb3.mono HW3.out.size))
      clear hb3 HST hcell hfr HW1 HW2 HW3 HW hI hA2
      go_wp2_with fail
      refine (func_c name _ zs.length cap (zs.set k 0) _ _ HST3.out (by omega)).mono ?_
      rintro e w' ⟨rfl, rfl⟩
      clear HST3
      generalize opI op (zs.set k 0) = p' at *
      generalize funcI name zs.length (zs.set k 0) = q' at *
      obtain ⟨pa', pe'⟩ := p'
      obtain ⟨qa', qe'⟩ := q'
      have ko := KO.out
      have kf := KF.out
      simp only at ko kf
      clear KO KF
      have t1 : ∀ y : Int, (y != y) = false := fun y => by simp
      rcases ko with e1 | ⟨e1, rfl, rfl⟩ | ⟨e1, rfl, e2, rfl⟩ <;> rcases kf with f1 | ⟨f1, rfl, rfl⟩ | ⟨f1, rfl, f2, rfl⟩
      all_goals
        go_wp2_with fail
        go_roundw
        case rel => exact ⟨k + 1, by omega, by go_num, HW4.out⟩
        case measure => simp [intOf]; omega
    · go_wp2_with (first | (go_at_call 8; refine (awake_c _).mono ?_; rintro e w' ⟨rfl, hb⟩))
      go_ret
      exact ⟨rfl, Bel.then (HB.out.trans (HW.out.mono HB.out.size)) hb⟩
end Go.Proofs.Ytiaolpeenbmidaa
