/- The walk of ScopeInner. -/
import Derived.Test.YtjbnhaiiedajjaaDoorInnerM
namespace Go.Proofs.YtjbnhaiiedajjaaDoor
set_option linter.unusedVariables false
open Go.ChangeShapes Go.WideShapes Go.ChangeAt Go.RowKit

set_option maxRecDepth 100000 in
set_option maxHeartbeats 4000000 in
theorem inner_a (A A2 : Option Addr) (N C N2 C2 : Nat) (env : List (List ColV)) (m : List ColV) (t n : ByteArray) (w : World) (hW : NumW w) (h : EnvAt w w.heap.size A N C env) (h2 : ColsAt w w.heap.size A2 N2 C2 m) (hN : N ≤ 1048576) :
    Calls Tryd.prog 6 #[.slice A N C, .slice A2 N2 C2, .string t, .string n] w fun e w' => e = .returned (.bool true) ∧ Below w.heap.size w w' := by
  obtain ⟨i0, hi0, hz0, hz1, hz2⟩ := info_parts cols_info
  have hm1 := h.cap
  have HW := hide hW
  have HE := hide h
  have HM := hide h2
  clear hW h h2
  go_enter Tryd.func6, Tryd.ntmps6
  go_wp2_with fail
  refine (find_c _ _ _ env _ _ _ HE.out).mono ?_
  rintro e w1 ⟨rfl, hb⟩
  have HE1 := hide (HE.out.kept hb)
  have HM1 := hide (HM.out.kept hb)
  have HB1 := hide hb
  clear hb
  obtain ⟨ls, hl, hr, hea⟩ := HE1.out.each
  have HR := hide hr
  have HEA := hide hea
  obtain rfl := hl
  clear hr hea
  have hle := HE1.out.len
  go_wp2_with (first
    | (at_builtin; refine wpList_app rfl (.tmp 30) (.tmp 31) 22 rfl w.heap.size 28 i0 _ 1 24 Tryd.underlying22 hi0 hz0 hz1 hz2 rfl (by omega) _ 0 [] rfl (World.ownsRow_lit w1 #[] 0 HB1.out.size (by simp [maxLen]) (by simp)) w1.heap.size A ls.length C (ls.map listVal).flatten rfl (by rw [listVal_flat]; simp) (HR.out.2.below (Bel.one _ _)) (by rw [listVal_flat]; simp [Value.oneCell']) (by simp only [maxLen]; omega) (by omega) (by have := HB1.out.size; simp; omega) HE1.out.nil ?_; intro v1 w2 hown1 hg1 hat1
       have HG1 := hide (((Below.refl w1.heap.size w1).alloc (Nat.le_refl _) (.cells #[] 28)).grown hg1 (by simp) (fun k hk => by cases hk; exact Nat.le_refl _))
       have HO1 := hide hown1
       have HV1 := hide (own_next hat1 (B := w1.heap.size) (fun k hk => by cases hk; exact Nat.le_refl _) (by simp))
       clear hown1 hg1 hat1)
    | (at_builtin; refine wpList_app rfl (.tmp 32) (.tmp 34) 22 rfl w.heap.size 28 i0 _ 1 24 Tryd.underlying22 hi0 hz0 hz1 hz2 rfl (by omega) v1 (0 + ls.length) _ rfl (HO1.out.alloc _) _ _ 1 1 [.slice A2 N2 C2] rfl rfl (cells_lit w2 #[.slice A2 N2 C2] 28) (by simp [Value.oneCell']) (by simp only [maxLen]; omega) (by omega) (by have := HB1.out.size; have := HG1.out.size; simp; omega) (by simp) ?_; intro v2 w3 hown2 hg2 hat2
       have HO2 := hide hown2
       have HG2 := hide (((Below.refl w1.heap.size w2).alloc HG1.out.size (.cells #[.slice A2 N2 C2] 28)).grown hg2 (by have := HG1.out.size; simp; omega) HV1.out)
       clear hown2 hg2 hat2))
  have hG := HG1.out.trans HG2.out
  obtain ⟨Ax, cx, rfl, hEx⟩ := env_of_own (ls := ls ++ [⟨A2, N2, C2⟩]) (env := env ++ [m]) (by rw [listVal_flat]; have := HO2.out; rw [listVal_flat] at this; simpa using this) (by simp [hle]) (each_app hle (each_kept HEA.out hG) (HM1.out.kept hG))
  have HEx := hide hEx
  have HB3 := hide (Bel.then HB1.out hG)
  have HR3 := hide (HR.out.kept hG)
  have HEA3 := hide (each_kept HEA.out hG)
  have HM3 := hide (HM1.out.kept hG)
  have HE3 := hide (HE1.out.kept hG)
  clear hG hEx HG1 HG2 HO1 HO2 HV1 HB1 HR HEA HM1 HE1
  go_wp2_with fail
  refine (find_c _ _ _ (env ++ [m]) _ _ _ HEx.out).mono ?_
  rintro e w4 ⟨rfl, hb⟩
  have HB4 := hide (Bel.then HB3.out hb)
  have HR4 := hide (HR3.out.kept hb)
  have HEA4 := hide (each_kept HEA3.out hb)
  have HM4 := hide (HM3.out.kept hb)
  have HE4 := hide (HE3.out.kept hb)
  clear hb HB3 HR3 HEA3 HM3 HE3 HEx
  go_wp2_with (
    at_builtin
    refine wpList_app rfl (.tmp 44) (.tmp 45) 22 rfl w.heap.size 28 i0 _ 1 24 Tryd.underlying22 hi0 hz0 hz1 hz2 rfl (by omega) _ 1 [.slice (some ⟨w4.heap.size, 0, none⟩) 0 0] rfl (own_lit2 w4 (.cells #[] 50) #[.slice (some ⟨w4.heap.size, 0, none⟩) 0 0] 28 1 1 w.heap.size (by have := HB4.out.size; omega) (by simp [maxLen]) (by simp)) w4.heap.size A ls.length C (ls.map listVal).flatten rfl (by rw [listVal_flat]; simp) ((HR4.out.2.below (Bel.one _ _)).below ((Below.refl _ _).alloc (by simp) _)) (by rw [listVal_flat]; simp [Value.oneCell']) (by simp only [maxLen]; omega) (by omega) (by have := HB4.out.size; simp; omega) HE4.out.nil ?_
    intro v3 w5 hown3 hg3 hat3
    have HG3 := hide ((((Below.refl w4.heap.size w4).alloc (Nat.le_refl _) (.cells #[] 50)).alloc (by simp) (.cells #[.slice (some ⟨w4.heap.size, 0, none⟩) 0 0] 28)).grown hg3 (by simp; omega) (fun k hk => by cases hk; exact Nat.le_succ _))
    have HO3 := hide hown3
    clear hown3 hg3 hat3)
  obtain ⟨Ay, cy, rfl, hEy⟩ := env_of_own (ls := ⟨some ⟨w4.heap.size, 0, none⟩, 0, 0⟩ :: ls) (env := [] :: env) (by rw [listVal_flat]; have := HO3.out; rw [listVal_flat] at this; simpa [Nat.add_comm] using this) (by simp [hle]) (each_cons (each_kept HEA4.out HG3.out) ⟨rfl, Nat.le_refl _, Nat.zero_le _, fun h => (by cases h), ⟨by simp, Cells.none _ _ _⟩⟩)
  have HEy := hide hEy
  have HB5 := hide (Bel.then HB4.out HG3.out)
  have HM5 := hide (HM4.out.kept HG3.out)
  have HE5 := hide (HE4.out.kept HG3.out)
  clear hEy HG3 HO3 HB4 HR4 HEA4 HM4 HE4
  go_wp2_with fail
  refine (find_c _ _ _ ([] :: env) _ _ _ HEy.out).mono ?_
  rintro e w6 ⟨rfl, hb⟩
  have HB6 := hide (Bel.then HB5.out hb)
  have HM6 := hide (HM5.out.kept hb)
  have HE6 := hide (HE5.out.kept hb)
  clear hb HB5 HM5 HE5 HEy
  have hk1 := find_app t n m env 0
  have hk2 : findF t n 0 ([] :: env) = findF t n (0 + 1) env := rfl
  rw [find_add] at hk2
  rw [Nat.zero_add] at hk1
  have hk3 := find_add t n [m] 0 env.length
  rw [Nat.zero_add] at hk3
  rw [hk3] at hk1
  rcases find_kinds t n env 0 with h | h | ⟨k, y, cs, c, h, h1, h2, h3⟩
  · have e2 : findF t n 0 ([] :: env) = (0, 0, 6) := by rw [hk2, h]; rfl
    rw [h, e2]
    rcases find_kinds t n [m] 0 with g | g | ⟨k, y, cs, c, g, g1, g2, g3⟩
    · have e1 : findF t n 0 (env ++ [m]) = (0, 0, 6) := by rw [hk1, h, g]; rfl
      rw [e1]
      have H3 := hide g
      clear e1 e2 hk1 hk2 hk3 h g
      go_wp2_with fail
      refine (find_c _ _ _ [m] _ _ _ (by simpa using env_one HM6.out 28)).mono ?_
      rw [H3.out]
      rintro e w7 ⟨rfl, hb⟩
      have HB7 := hide (Bel.then (Bel.alloc HB6.out _) hb)
      clear hb
      go_wp2_with fail
      refine (awake_c _ (HW.out.keep HB7.out)).mono ?_
      rintro e w8 ⟨rfl, hb⟩
      have HB8 := hide (Bel.then HB7.out hb)
      clear hb
      go_wp2_with fail
      go_ret
      exact ⟨rfl, HB8.out⟩
    · have e1 : findF t n 0 (env ++ [m]) = (0, 0, 8) := by rw [hk1, h, g]; rfl
      rw [e1]
      have H3 := hide g
      clear e1 e2 hk1 hk2 hk3 h g
      go_wp2_with fail
      refine (find_c _ _ _ [m] _ _ _ (by simpa using env_one HM6.out 28)).mono ?_
      rw [H3.out]
      rintro e w7 ⟨rfl, hb⟩
      have HB7 := hide (Bel.then (Bel.alloc HB6.out _) hb)
      clear hb
      go_wp2_with fail
      refine (awake_c _ (HW.out.keep HB7.out)).mono ?_
      rintro e w8 ⟨rfl, hb⟩
      have HB8 := hide (Bel.then HB7.out hb)
      clear hb
      go_wp2_with fail
      go_ret
      exact ⟨rfl, HB8.out⟩
    · have e1 : findF t n 0 (env ++ [m]) = (0 + k + ls.length, y, 0) := by rw [hk1, h, g, ← hle]; rfl
      have hk0 := (List.getElem?_eq_some_iff.1 g1).1
      have hy0 := (List.getElem?_eq_some_iff.1 g2).1
      simp at hk0
      subst hk0
      simp only [Nat.zero_add] at e1 g
      simp at g1
      subst g1
      have hy1 := HM6.out.len
      have hy2 := HM6.out.cap
      have hy3 := HM6.out.max
      unfold maxLen at hy3
      rw [e1]
      have H3 := hide g
      clear e1 e2 hk1 hk2 hk3 h g g2 g3
      go_wp2_with fail
      refine (find_c _ _ _ [m] _ _ _ (by simpa using env_one HM6.out 28)).mono ?_
      rw [H3.out]
      rintro e w7 ⟨rfl, hb⟩
      have HB7 := hide (Bel.then (Bel.alloc HB6.out _) hb)
      clear hb
      go_wp2_with fail
      refine (awake_c _ (HW.out.keep HB7.out)).mono ?_
      rintro e w8 ⟨rfl, hb⟩
      have HB8 := hide (Bel.then HB7.out hb)
      clear hb
      go_wp2_with fail
      go_ret
      exact ⟨rfl, HB8.out⟩
  · have e2 : findF t n 0 ([] :: env) = (0, 0, 8) := by rw [hk2, h]; rfl
    have e1 : findF t n 0 (env ++ [m]) = (0, 0, 8) := by rw [hk1, h]; rfl
    rw [h, e1, e2]
    clear e1 e2 hk1 hk2 hk3 h
    go_wp2_with fail
    refine (awake_c _ (HW.out.keep HB6.out)).mono ?_
    rintro e w8 ⟨rfl, hb⟩
    have HB8 := hide (Bel.then HB6.out hb)
    clear hb
    go_wp2_with fail
    go_ret
    exact ⟨rfl, HB8.out⟩
  · have e2 : findF t n 0 ([] :: env) = (k + 1, y, 0) := by rw [hk2, h]; simp
    have e1 : findF t n 0 (env ++ [m]) = (k, y, 0) := by rw [hk1, h]; simp
    have hks := (List.getElem?_eq_some_iff.1 h1).1
    simp only [Nat.zero_add] at h
    obtain ⟨b, off, A1, n1, c1, cs', rfl, hb6, hcs, hcell, hcols⟩ := HE6.out.one (show k < ls.length by omega)
    obtain rfl : cs = cs' := by rw [h1] at hcs; exact Option.some.inj hcs
    have hy := (List.getElem?_eq_some_iff.1 h2).1
    have hyn := hcols.len
    obtain ⟨b2, off2, c', rfl, hb7, hc', hc0, hc1, hc2⟩ := hcols.col (show y < n1 by omega)
    obtain rfl : c = c' := by rw [h2] at hc'; exact Option.some.inj hc'
    have hx := hcols.cap
    have hx2 := hcols.max
    unfold maxLen at hx2
    have hyy : (y : Int) < n1 := by omega
    have hkk : (k : Int) < ls.length := by omega
    rw [h, e1, e2]
    rcases (show ((c.nam.toList == n.toList) = true ∧ t.toList.isEmpty = true) ∨ ((c.nam.toList == n.toList) = true ∧ t.toList.isEmpty = false ∧ (c.tab.toList == t.toList) = true) by unfold meansB at h3; revert h3; cases (c.nam.toList == n.toList) <;> cases t.toList.isEmpty <;> cases (c.tab.toList == t.toList) <;> simp) with ⟨f1, f2⟩ | ⟨f1, f2, f3⟩
    all_goals
      clear e1 e2 hk1 hk2 hk3 h h1 h2 h3 hcols hcs hc' hy hyn hks
      go_wp2_with fail
      refine (awake_c _ (HW.out.keep HB6.out)).mono ?_
      rintro e w8 ⟨rfl, hb⟩
      have HB8 := hide (Bel.then HB6.out hb)
      have d0 := kept hb hcell
      have d1 := kept hb hc0
      have d2 := kept hb hc1
      clear hb hcell hc0 hc1 hc2
      go_wp2_with fail
      go_ret
      exact ⟨rfl, HB8.out⟩
end Go.Proofs.YtjbnhaiiedajjaaDoor
