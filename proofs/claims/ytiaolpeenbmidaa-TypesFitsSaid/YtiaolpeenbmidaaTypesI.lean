/- The walks of the laws on package types: columns, unknown kinds. -/
import Derived.Test.YtiaolpeenbmidaaTypesH
namespace Go.Proofs.Ytiaolpeenbmidaa
set_option linter.unusedVariables false
open Go.ChangeShapes Go.WideShapes Go.ChangeAt Go.RowKit

theorem fits_free (k n : Int) (s : ByteArray) (ty : Int) (nn : Bool) : fitsV k n s ty false = fitsV k n s ty nn ∨ (k = 0 ∧ fitsV k n s ty nn = 12 ∧ fitsV k n s ty false = 0) := by
  unfold fitsV fitsW
  cases nn
  · left; rfl
  · by_cases h : k = 0 <;> cases rightV k n s <;> simp [h]
set_option maxHeartbeats 2000000 in
theorem fits_w (k n : Int) (s nm : ByteArray) (ty : Int) (nn : Bool) (w : World) (hm : s.size ≤ maxLen) :
    Calls Try.prog 5 #[.agg #[.int .i64 k, .int .i64 n, .string s], .agg #[.string nm, .int .i64 ty, .bool nn]] w fun e w' => e = .returned (.bool true) ∧ Below w.heap.size w w' := by
  have hf := fits_free k n s ty nn
  have f1 := fun W => tfits_c k n s nm ty nn W hm
  have f2 := fun W => tfits_c k n s nm ty false W hm
  have f3 := fun W => rtfits_c k n s nm ty nn W hm
  generalize fitsV k n s ty nn = x at *
  generalize fitsV k n s ty false = y at *
  have F1 := hide f1
  have F2 := hide f2
  have F3 := hide f3
  clear f1 f2 f3
  have HB := hide (Bel.alloc (Bel.one w (.cells #[.int .i64 k, .int .i64 n, .string s] 34)) (.cells #[.string nm, .int .i64 ty, .bool nn] 36))
  have hx : (y = x ∧ (y == x) = true) ∨ ((y == x) = false ∧ k = 0 ∧ x = 12 ∧ y = 0) := by
    by_cases h : y = x
    · left; simp [h]
    · right; simp [h]; omega
  clear hf
  go_enter Try.func5, Try.ntmps5
  go_wp2_with fail
  refine (F1.out _).mono ?_
  rintro e w1 ⟨rfl, hb⟩
  have c0 := kept hb (p := ⟨w.heap.size, 0, none⟩) (v := .int .i64 k) (by go_simp)
  have c1 := kept hb (p := ⟨w.heap.size, 1, none⟩) (v := .int .i64 n) (by go_simp)
  have c2 := kept hb (p := ⟨w.heap.size, 2, none⟩) (v := .string s) (by go_simp)
  have c3 := kept hb (p := ⟨w.heap.size + 1, 0, none⟩) (v := .string nm) (by go_simp)
  have c4 := kept hb (p := ⟨w.heap.size + 1, 1, none⟩) (v := .int .i64 ty) (by go_simp)
  have c5 := kept hb (p := ⟨w.heap.size + 1, 2, none⟩) (v := .bool nn) (by go_simp)
  replace HB := hide (Bel.then HB.out hb)
  clear hb
  have hsz := HB.out.size
  have hlt := World.block_lt_of_cell? w1 _ c5
  simp only at hlt
  have hlt0 : w.heap.size < w1.heap.size := by omega
  rcases hx with ⟨hx, hxx⟩ | ⟨hxx, rfl, rfl, rfl⟩
  · subst hx
    have t1 : (y == y) = true := hxx
    go_wp2_with fail
    refine (F2.out _).mono ?_
    rintro e w2 ⟨rfl, hb⟩
    replace c0 := kept hb (p := ⟨w.heap.size, 0, none⟩) (v := .int .i64 k) (by go_simp)
    replace c1 := kept hb (p := ⟨w.heap.size, 1, none⟩) (v := .int .i64 n) (by go_simp)
    replace c2 := kept hb (p := ⟨w.heap.size, 2, none⟩) (v := .string s) (by go_simp)
    replace c3 := kept hb (p := ⟨w.heap.size + 1, 0, none⟩) (v := .string nm) (by go_simp)
    replace c4 := kept hb (p := ⟨w.heap.size + 1, 1, none⟩) (v := .int .i64 ty) (by go_simp)
    replace c5 := kept hb (p := ⟨w.heap.size + 1, 2, none⟩) (v := .bool nn) (by go_simp)
    have HB2 := hide (hb)
    clear hb
    go_wp2_with fail
    refine (awake_c _).mono ?_
    rintro e w3 ⟨rfl, hb⟩
    replace c0 := kept hb (p := ⟨w.heap.size, 0, none⟩) (v := .int .i64 k) (by go_simp)
    replace c1 := kept hb (p := ⟨w.heap.size, 1, none⟩) (v := .int .i64 n) (by go_simp)
    replace c2 := kept hb (p := ⟨w.heap.size, 2, none⟩) (v := .string s) (by go_simp)
    replace c3 := kept hb (p := ⟨w.heap.size + 1, 0, none⟩) (v := .string nm) (by go_simp)
    replace c4 := kept hb (p := ⟨w.heap.size + 1, 1, none⟩) (v := .int .i64 ty) (by go_simp)
    replace c5 := kept hb (p := ⟨w.heap.size + 1, 2, none⟩) (v := .bool nn) (by go_simp)
    have HB3 := hide (hb)
    clear hb
    go_wp2_with fail
    refine (F3.out _).mono ?_
    rintro e w4 ⟨rfl, hb⟩
    replace c0 := kept hb (p := ⟨w.heap.size, 0, none⟩) (v := .int .i64 k) (by go_simp)
    replace c1 := kept hb (p := ⟨w.heap.size, 1, none⟩) (v := .int .i64 n) (by go_simp)
    replace c2 := kept hb (p := ⟨w.heap.size, 2, none⟩) (v := .string s) (by go_simp)
    replace c3 := kept hb (p := ⟨w.heap.size + 1, 0, none⟩) (v := .string nm) (by go_simp)
    replace c4 := kept hb (p := ⟨w.heap.size + 1, 1, none⟩) (v := .int .i64 ty) (by go_simp)
    replace c5 := kept hb (p := ⟨w.heap.size + 1, 2, none⟩) (v := .bool nn) (by go_simp)
    go_wp2_with fail
    go_ret
    exact ⟨rfl, Bel.then (Bel.then (HB.out.trans (((Below.refl w1.heap.size w1).alloc (Nat.le_refl _) _).mono hsz |>.trans (HB2.out.mono (by simp; omega)))) HB3.out) hb⟩
  · go_wp2_with fail
    refine (F2.out _).mono ?_
    rintro e w2 ⟨rfl, hb⟩
    replace c0 := kept hb (p := ⟨w.heap.size, 0, none⟩) (v := .int .i64 0) (by go_simp)
    replace c1 := kept hb (p := ⟨w.heap.size, 1, none⟩) (v := .int .i64 n) (by go_simp)
    replace c2 := kept hb (p := ⟨w.heap.size, 2, none⟩) (v := .string s) (by go_simp)
    replace c3 := kept hb (p := ⟨w.heap.size + 1, 0, none⟩) (v := .string nm) (by go_simp)
    replace c4 := kept hb (p := ⟨w.heap.size + 1, 1, none⟩) (v := .int .i64 ty) (by go_simp)
    replace c5 := kept hb (p := ⟨w.heap.size + 1, 2, none⟩) (v := .bool nn) (by go_simp)
    have HB2 := hide (hb)
    clear hb
    go_wp2_with fail
    refine (awake_c _).mono ?_
    rintro e w3 ⟨rfl, hb⟩
    replace c0 := kept hb (p := ⟨w.heap.size, 0, none⟩) (v := .int .i64 0) (by go_simp)
    replace c1 := kept hb (p := ⟨w.heap.size, 1, none⟩) (v := .int .i64 n) (by go_simp)
    replace c2 := kept hb (p := ⟨w.heap.size, 2, none⟩) (v := .string s) (by go_simp)
    replace c3 := kept hb (p := ⟨w.heap.size + 1, 0, none⟩) (v := .string nm) (by go_simp)
    replace c4 := kept hb (p := ⟨w.heap.size + 1, 1, none⟩) (v := .int .i64 ty) (by go_simp)
    replace c5 := kept hb (p := ⟨w.heap.size + 1, 2, none⟩) (v := .bool nn) (by go_simp)
    have HB3 := hide (hb)
    clear hb
    go_wp2_with fail
    refine (F3.out _).mono ?_
    rintro e w4 ⟨rfl, hb⟩
    replace c0 := kept hb (p := ⟨w.heap.size, 0, none⟩) (v := .int .i64 0) (by go_simp)
    replace c1 := kept hb (p := ⟨w.heap.size, 1, none⟩) (v := .int .i64 n) (by go_simp)
    replace c2 := kept hb (p := ⟨w.heap.size, 2, none⟩) (v := .string s) (by go_simp)
    replace c3 := kept hb (p := ⟨w.heap.size + 1, 0, none⟩) (v := .string nm) (by go_simp)
    replace c4 := kept hb (p := ⟨w.heap.size + 1, 1, none⟩) (v := .int .i64 ty) (by go_simp)
    replace c5 := kept hb (p := ⟨w.heap.size + 1, 2, none⟩) (v := .bool nn) (by go_simp)
    go_wp2_with fail
    go_ret
    exact ⟨rfl, Bel.then (Bel.then (HB.out.trans (((Below.refl w1.heap.size w1).alloc (Nat.le_refl _) _).mono hsz |>.trans (HB2.out.mono (by simp; omega)))) HB3.out) hb⟩
end Go.Proofs.Ytiaolpeenbmidaa
