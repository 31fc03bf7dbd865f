/- Contracts of package types and of its reference: columns; the examples of the chapter. -/
import Derived.Test.YtiaolpeenbmidaaTypesE
namespace Go.Proofs.Ytiaolpeenbmidaa
set_option linter.unusedVariables false
open Go.ChangeShapes Go.WideShapes Go.ChangeAt Go.RowKit

def fitsW (r : Bool) (k ty : Int) (nn : Bool) : Int := if r then (if k = 0 then (if nn then 12 else 0) else if k = ty then 0 else 9) else 1
def fitsV (k n : Int) (s : ByteArray) (ty : Int) (nn : Bool) : Int := fitsW (rightV k n s) k ty nn
theorem tfits_c (k n : Int) (s nm : ByteArray) (ty : Int) (nn : Bool) (w : World) (hm : s.size ≤ maxLen) :
    Calls Try.prog 17 #[.agg #[.int .i64 k, .int .i64 n, .string s], .agg #[.string nm, .int .i64 ty, .bool nn]] w fun e w' => e = .returned (.int .i64 (fitsV k n s ty nn)) ∧ Below w.heap.size w w' := by
  have hr : fitsV k n s ty nn = fitsW (rightV k n s) k ty nn := rfl
  rw [hr]
  generalize er : rightV k n s = r
  have ER := hide er
  clear hr er
  have hh : ∀ (e : Int), fitsW r k ty nn = e → Hid (fitsW r k ty nn = e) := fun _ h => h
  clear hh
  cases r
  · have HE : Hid (fitsW false k ty nn = 1) := rfl
    go_enter Try.func17, Try.ntmps17
    go_wp2_with (first | (go_at_call 33; refine (right_c _ _ _ _ hm).mono ?_; rw [ER.out]; rintro e w' ⟨rfl, hb⟩; have d0 := kept hb (p := ⟨w.heap.size, 0, none⟩) (v := .int .i64 k) (by go_simp); have d1 := kept hb (p := ⟨w.heap.size + 1, 1, none⟩) (v := .int .i64 ty) (by go_simp); have d2 := kept hb (p := ⟨w.heap.size + 1, 2, none⟩) (v := .bool nn) (by go_simp); have HB := hide (Bel.then (Bel.alloc (Bel.one w _) _) hb); clear hb))
    go_ret
    exact ⟨ret_int HE.out.symm, HB.out⟩
  · by_cases hk : k = 0
    · subst hk
      have HE : Hid (fitsW true 0 ty nn = if nn then 12 else 0) := rfl
      have hnn : nn = true ∨ nn = false := by cases nn <;> simp
      rcases hnn with hnn | hnn
      all_goals
        go_enter Try.func17, Try.ntmps17
        go_wp2_with (first | (go_at_call 33; refine (right_c _ _ _ _ hm).mono ?_; rw [ER.out]; rintro e w' ⟨rfl, hb⟩; have d0 := kept hb (p := ⟨w.heap.size, 0, none⟩) (v := .int .i64 0) (by go_simp); have d1 := kept hb (p := ⟨w.heap.size + 1, 1, none⟩) (v := .int .i64 ty) (by go_simp); have d2 := kept hb (p := ⟨w.heap.size + 1, 2, none⟩) (v := .bool nn) (by go_simp); have HB := hide (Bel.then (Bel.alloc (Bel.one w _) _) hb); clear hb))
        go_ret
        exact ⟨ret_int (by rw [HE.out, hnn]; rfl), HB.out⟩
    · have t0 : (k == 0) = false := by simp [hk]
      by_cases hkt : k = ty
      · have HE : Hid (fitsW true k ty nn = 0) := by show fitsW true k ty nn = 0; simp [fitsW, hkt]; omega
        have t1 : (k != ty) = false := by simp [hkt]
        clear hkt
        go_enter Try.func17, Try.ntmps17
        go_wp2_with (first | (go_at_call 33; refine (right_c _ _ _ _ hm).mono ?_; rw [ER.out]; rintro e w' ⟨rfl, hb⟩; have d0 := kept hb (p := ⟨w.heap.size, 0, none⟩) (v := .int .i64 k) (by go_simp); have d1 := kept hb (p := ⟨w.heap.size + 1, 1, none⟩) (v := .int .i64 ty) (by go_simp); have d2 := kept hb (p := ⟨w.heap.size + 1, 2, none⟩) (v := .bool nn) (by go_simp); have HB := hide (Bel.then (Bel.alloc (Bel.one w _) _) hb); clear hb))
        go_ret
        exact ⟨ret_int HE.out.symm, HB.out⟩
      · have HE : Hid (fitsW true k ty nn = 9) := by show fitsW true k ty nn = 9; simp [fitsW, hk, hkt]
        have t1 : (k != ty) = true := by simp [hkt]
        clear hkt
        go_enter Try.func17, Try.ntmps17
        go_wp2_with (first | (go_at_call 33; refine (right_c _ _ _ _ hm).mono ?_; rw [ER.out]; rintro e w' ⟨rfl, hb⟩; have d0 := kept hb (p := ⟨w.heap.size, 0, none⟩) (v := .int .i64 k) (by go_simp); have d1 := kept hb (p := ⟨w.heap.size + 1, 1, none⟩) (v := .int .i64 ty) (by go_simp); have d2 := kept hb (p := ⟨w.heap.size + 1, 2, none⟩) (v := .bool nn) (by go_simp); have HB := hide (Bel.then (Bel.alloc (Bel.one w _) _) hb); clear hb))
        go_ret
        exact ⟨ret_int HE.out.symm, HB.out⟩
theorem rtfits_c (k n : Int) (s nm : ByteArray) (ty : Int) (nn : Bool) (w : World) (hm : s.size ≤ maxLen) :
    Calls Try.prog 18 #[.agg #[.int .i64 k, .int .i64 n, .string s], .agg #[.string nm, .int .i64 ty, .bool nn]] w fun e w' => e = .returned (.int .i64 (fitsV k n s ty nn)) ∧ Below w.heap.size w w' := by
  have hr : fitsV k n s ty nn = fitsW (rightV k n s) k ty nn := rfl
  rw [hr]
  generalize er : rightV k n s = r
  have ER := hide er
  clear hr er
  have hh : ∀ (e : Int), fitsW r k ty nn = e → Hid (fitsW r k ty nn = e) := fun _ h => h
  clear hh
  cases r
  · have HE : Hid (fitsW false k ty nn = 1) := rfl
    go_enter Try.func18, Try.ntmps18
    go_wp2_with (first | (go_at_call 34; refine (rright_c _ _ _ _ hm).mono ?_; rw [ER.out]; rintro e w' ⟨rfl, hb⟩; have d0 := kept hb (p := ⟨w.heap.size, 0, none⟩) (v := .int .i64 k) (by go_simp); have d1 := kept hb (p := ⟨w.heap.size + 1, 1, none⟩) (v := .int .i64 ty) (by go_simp); have d2 := kept hb (p := ⟨w.heap.size + 1, 2, none⟩) (v := .bool nn) (by go_simp); have HB := hide (Bel.then (Bel.alloc (Bel.one w _) _) hb); clear hb))
    go_ret
    exact ⟨ret_int HE.out.symm, HB.out⟩
  · by_cases hk : k = 0
    · subst hk
      have HE : Hid (fitsW true 0 ty nn = if nn then 12 else 0) := rfl
      have hnn : nn = true ∨ nn = false := by cases nn <;> simp
      rcases hnn with hnn | hnn
      all_goals
        go_enter Try.func18, Try.ntmps18
        go_wp2_with (first | (go_at_call 34; refine (rright_c _ _ _ _ hm).mono ?_; rw [ER.out]; rintro e w' ⟨rfl, hb⟩; have d0 := kept hb (p := ⟨w.heap.size, 0, none⟩) (v := .int .i64 0) (by go_simp); have d1 := kept hb (p := ⟨w.heap.size + 1, 1, none⟩) (v := .int .i64 ty) (by go_simp); have d2 := kept hb (p := ⟨w.heap.size + 1, 2, none⟩) (v := .bool nn) (by go_simp); have HB := hide (Bel.then (Bel.alloc (Bel.one w _) _) hb); clear hb))
        go_ret
        exact ⟨ret_int (by rw [HE.out, hnn]; rfl), HB.out⟩
    · have t0 : (k == 0) = false := by simp [hk]
      by_cases hkt : k = ty
      · have HE : Hid (fitsW true k ty nn = 0) := by show fitsW true k ty nn = 0; simp [fitsW, hkt]; omega
        have t1 : (k != ty) = false := by simp [hkt]
        clear hkt
        go_enter Try.func18, Try.ntmps18
        go_wp2_with (first | (go_at_call 34; refine (rright_c _ _ _ _ hm).mono ?_; rw [ER.out]; rintro e w' ⟨rfl, hb⟩; have d0 := kept hb (p := ⟨w.heap.size, 0, none⟩) (v := .int .i64 k) (by go_simp); have d1 := kept hb (p := ⟨w.heap.size + 1, 1, none⟩) (v := .int .i64 ty) (by go_simp); have d2 := kept hb (p := ⟨w.heap.size + 1, 2, none⟩) (v := .bool nn) (by go_simp); have HB := hide (Bel.then (Bel.alloc (Bel.one w _) _) hb); clear hb))
        go_ret
        exact ⟨ret_int HE.out.symm, HB.out⟩
      · have HE : Hid (fitsW true k ty nn = 9) := by show fitsW true k ty nn = 9; simp [fitsW, hk, hkt]
        have t1 : (k != ty) = true := by simp [hkt]
        clear hkt
        go_enter Try.func18, Try.ntmps18
        go_wp2_with (first | (go_at_call 34; refine (rright_c _ _ _ _ hm).mono ?_; rw [ER.out]; rintro e w' ⟨rfl, hb⟩; have d0 := kept hb (p := ⟨w.heap.size, 0, none⟩) (v := .int .i64 k) (by go_simp); have d1 := kept hb (p := ⟨w.heap.size + 1, 1, none⟩) (v := .int .i64 ty) (by go_simp); have d2 := kept hb (p := ⟨w.heap.size + 1, 2, none⟩) (v := .bool nn) (by go_simp); have HB := hide (Bel.then (Bel.alloc (Bel.one w _) _) hb); clear hb))
        go_ret
        exact ⟨ret_int HE.out.symm, HB.out⟩
theorem joins_e : joinB 0 1 = true ∧ joinV 0 1 = 1 := by decide
theorem awake_c (w : World) : Calls Try.prog 8 #[] w fun e w' => e = .returned (.bool true) ∧ Below w.heap.size w w' := by
  have e1 : opI 11 [2, 0] = (1, 0) := by kernel_rfl
  have e2 : opI 23 [1, 2, 3] = (0, 9) := by kernel_rfl
  have e3 : funcI ⟨#[99, 111, 97, 108, 101, 115, 99, 101]⟩ 2 [0, 3] = (3, 0) := by kernel_rfl
  have e4 : aggI ⟨#[115, 117, 109]⟩ 3 = (0, 9) := by kernel_rfl
  have e5 : fitsV 0 0 ⟨#[]⟩ 2 true = 12 := by kernel_rfl
  have q1 := fun W => op_c 11 _ 2 2 [2, 0] _ ((ints_lit W [2, 0] 3 rfl rfl).more (by simp)) (by omega) (by omega) (by simp)
  have q2 := fun W => op_c 23 _ 3 3 [1, 2, 3] _ ((ints_lit W [1, 2, 3] 3 rfl rfl).more (by simp)) (by omega) (by omega) (by simp)
  have q3 := fun W => func_c ⟨#[99, 111, 97, 108, 101, 115, 99, 101]⟩ _ 2 2 [0, 3] _ _ (ints_lit W [0, 3] 3 rfl rfl) (by omega)
  have q5 := fun W => tfits_c 0 0 ⟨#[]⟩ ⟨#[]⟩ 2 true W (by simp [ByteArray.size, maxLen])
  rw [e1] at q1
  rw [e2] at q2
  rw [e3] at q3
  rw [e5] at q5
  have Q1 := hide q1
  have Q2 := hide q2
  have Q3 := hide q3
  have Q5 := hide q5
  have E4 := hide e4
  clear q1 q2 q3 q5 e1 e2 e3 e4 e5
  go_enter Try.func8, Try.ntmps8
  go_wp2_with fail
  refine (Q1.out _).mono ?_
  rintro e w1 ⟨rfl, hb1⟩
  go_wp2_with fail
  refine (Q2.out _).mono ?_
  rintro e w2 ⟨rfl, hb2⟩
  go_wp2_with fail
  refine (Q3.out _).mono ?_
  rintro e w' ⟨rfl, rfl⟩
  go_wp2_with fail
  refine (agg_c _ _ _).mono ?_
  rw [E4.out]
  rintro e w4 ⟨rfl, hb4⟩
  go_wp2_with fail
  refine (join_c _ _ _).mono ?_
  rw [joins_e.1, joins_e.2]
  rintro e w' ⟨rfl, rfl⟩
  go_wp2_with fail
  refine (Q5.out _).mono ?_
  rintro e w5 ⟨rfl, hb5⟩
  go_wp2_with fail
  go_ret
  exact ⟨rfl, Bel.then (Bel.then (Bel.alloc (Bel.then (Bel.alloc (Bel.then (Bel.one w _) hb1) _) hb2) _) hb4) hb5⟩
end Go.Proofs.Ytiaolpeenbmidaa
