/- Contracts: kinds of bytes; the box of a token; number. -/
import Derived.Test.YtcmhnaanfkpheaaDoorLxN
import Derived.Test.YtcmhnaanfkpheaaDoorLib2
import Derived.Test.YtcmhnaanfkpheaaDoorSl
import Derived.Test.YtcmhnaanfkpheaaDoorShelf
namespace Go.Proofs.YtcmhnaanfkpheaaDoor
set_option linter.unusedVariables false
open Go.ChangeShapes Go.WideShapes Go.ChangeAt Go.RowKit

theorem str_len (s : ByteArray) : s.data.toList.length = s.size := by rw [Array.length_toList]; rfl
theorem drop_str {s : ByteArray} {k : Nat} (h : k < s.size) : s.data.toList.drop k = s[k] :: s.data.toList.drop (k + 1) := by
  have hl : k < s.data.toList.length := by rw [str_len]; exact h
  rw [List.drop_eq_getElem_cons hl]
  rfl
def strL (l : List UInt8) : ByteArray := ⟨l.toArray⟩
theorem strL_list (l : List UInt8) : (strL l).data.toList = l := by simp [strL]
theorem strL_str (s : ByteArray) : strL s.data.toList = s := by
  apply ByteArray.ext
  apply Array.ext'
  simp [strL]
def lowI (z : Int) : Bool := (decide (97 ≤ z) && decide (z ≤ 122)) || z == 95
def upI (z : Int) : Bool := decide (65 ≤ z) && decide (z ≤ 90)
def digI (z : Int) : Bool := decide (48 ≤ z) && decide (z ≤ 57)
theorem low_byte (c : UInt8) : lowI c.toNat = lowB c := by
  unfold lowI lowB
  have h1 : (decide ((97 : Int) ≤ (c.toNat : Int))) = decide (97 ≤ c.toNat) := by rw [decide_eq_decide]; omega
  have h2 : (decide ((c.toNat : Int) ≤ 122)) = decide (c.toNat ≤ 122) := by rw [decide_eq_decide]; omega
  have h3 : (((c.toNat : Int)) == 95) = (c == 95) := by
    rw [Bool.eq_iff_iff, beq_iff_eq, beq_iff_eq, ← UInt8.toNat_inj]
    have : (95 : UInt8).toNat = 95 := rfl
    omega
  rw [h1, h2, h3]
theorem up_byte (c : UInt8) : upI c.toNat = upB c := by
  unfold upI upB
  have h1 : (decide ((65 : Int) ≤ (c.toNat : Int))) = decide (65 ≤ c.toNat) := by rw [decide_eq_decide]; omega
  have h2 : (decide ((c.toNat : Int) ≤ 90)) = decide (c.toNat ≤ 90) := by rw [decide_eq_decide]; omega
  rw [h1, h2]
theorem dig_byte (c : UInt8) : digI c.toNat = digB c := by
  unfold digI digB
  have h1 : (decide ((48 : Int) ≤ (c.toNat : Int))) = decide (48 ≤ c.toNat) := by rw [decide_eq_decide]; omega
  have h2 : (decide ((c.toNat : Int) ≤ 57)) = decide (c.toNat ≤ 57) := by rw [decide_eq_decide]; omega
  rw [h1, h2]
theorem letter_c (z : Int) (w : World) : Calls Tryd.prog 34 #[.int .i32 z] w fun e w' => e = .returned (.bool (lowI z)) ∧ w = w' := by
  unfold lowI
  by_cases h1 : (97 : Int) ≤ z
  · by_cases h2 : z ≤ 122
    · have e : ((decide ((97 : Int) ≤ z) && decide (z ≤ 122)) || z == 95) = true := by rw [decide_eq_true h1, decide_eq_true h2]; rfl
      rw [e]
      go_enter Tryd.func34, Tryd.ntmps34
      go_wp2
      go_ret
      exact ⟨rfl, rfl⟩
    · have h3 : (z == 95) = false := by rw [beq_eq_false_iff_ne]; omega
      have e : ((decide ((97 : Int) ≤ z) && decide (z ≤ 122)) || z == 95) = false := by rw [decide_eq_false h2, h3]; simp
      rw [e]
      go_enter Tryd.func34, Tryd.ntmps34
      go_wp2
      go_ret
      exact ⟨rfl, rfl⟩
  · by_cases h3 : z = 95
    · subst h3
      go_enter Tryd.func34, Tryd.ntmps34
      go_wp2
      go_ret
      exact ⟨rfl, rfl⟩
    · have h4 : (z == 95) = false := by rw [beq_eq_false_iff_ne]; exact h3
      have e : ((decide ((97 : Int) ≤ z) && decide (z ≤ 122)) || z == 95) = false := by rw [decide_eq_false h1, h4]; simp
      rw [e]
      go_enter Tryd.func34, Tryd.ntmps34
      go_wp2
      go_ret
      exact ⟨rfl, rfl⟩
theorem upper_c (z : Int) (w : World) : Calls Tryd.prog 35 #[.int .i32 z] w fun e w' => e = .returned (.bool (upI z)) ∧ w = w' := by
  unfold upI
  by_cases h1 : (65 : Int) ≤ z
  · by_cases h2 : z ≤ 90
    · rw [decide_eq_true h1, decide_eq_true h2]
      go_enter Tryd.func35, Tryd.ntmps35
      go_wp2
      go_ret
      exact ⟨rfl, rfl⟩
    · rw [decide_eq_true h1, decide_eq_false h2]
      go_enter Tryd.func35, Tryd.ntmps35
      go_wp2
      go_ret
      exact ⟨rfl, rfl⟩
  · rw [decide_eq_false h1, Bool.false_and]
    go_enter Tryd.func35, Tryd.ntmps35
    go_wp2
    go_ret
    exact ⟨rfl, rfl⟩
theorem digit_c (z : Int) (w : World) : Calls Tryd.prog 37 #[.int .i32 z] w fun e w' => e = .returned (.bool (digI z)) ∧ w = w' := by
  unfold digI
  by_cases h1 : (48 : Int) ≤ z
  · by_cases h2 : z ≤ 57
    · rw [decide_eq_true h1, decide_eq_true h2]
      go_enter Tryd.func37, Tryd.ntmps37
      go_wp2
      go_ret
      exact ⟨rfl, rfl⟩
    · rw [decide_eq_true h1, decide_eq_false h2]
      go_enter Tryd.func37, Tryd.ntmps37
      go_wp2
      go_ret
      exact ⟨rfl, rfl⟩
  · rw [decide_eq_false h1, Bool.false_and]
    go_enter Tryd.func37, Tryd.ntmps37
    go_wp2
    go_ret
    exact ⟨rfl, rfl⟩
/-- A token's value. -/
def tokAgg (k a s n : Int) (t : ByteArray) : Value := .agg #[.int .i64 k, .int .i64 a, .int .i64 s, .int .i64 n, .string t]
/-- A token in a box of its own. -/
def TokBox (w : World) (g : Nat) (k a s n : Int) (t : ByteArray) : Prop := w.heap[g]? = some (.cells #[.int .i64 k, .int .i64 a, .int .i64 s, .int .i64 n, .string t] 24 (0, 0))
section
variable {w w' : World} {g : Nat} {k a s n : Int} {t : ByteArray}
theorem TokBox.kept (h : TokBox w g k a s n t) (hb : Below w.heap.size w w') : TokBox w' g k a s n t := (hb.block g (Array.getElem?_eq_some_iff.1 h).1).trans h
theorem TokBox.all (h : TokBox w g k a s n t) : (w.cell? ⟨g, 0, none⟩ = some (.int .i64 k) ∧ w.cell? ⟨g, 1, none⟩ = some (.int .i64 a) ∧ w.cell? ⟨g, 2, none⟩ = some (.int .i64 s) ∧ w.cell? ⟨g, 3, none⟩ = some (.int .i64 n) ∧ w.cell? ⟨g, 4, none⟩ = some (.string t)) ∧ (w.frozen? ⟨g, 0, none⟩ = false ∧ w.frozen? ⟨g, 1, none⟩ = false ∧ w.frozen? ⟨g, 2, none⟩ = false ∧ w.frozen? ⟨g, 3, none⟩ = false ∧ w.frozen? ⟨g, 4, none⟩ = false) :=
  ⟨⟨Lib.cell_of_heap h 0, Lib.cell_of_heap h 1, Lib.cell_of_heap h 2, Lib.cell_of_heap h 3, Lib.cell_of_heap h 4⟩, ⟨Lib.frozen_of_heap h 0, Lib.frozen_of_heap h 1, Lib.frozen_of_heap h 2, Lib.frozen_of_heap h 3, Lib.frozen_of_heap h 4⟩⟩
end
def set5 (w : World) (b : Nat) (x y z u v : Value) : World := ((((w.setCell ⟨b, 0, none⟩ x).setCell ⟨b, 1, none⟩ y).setCell ⟨b, 2, none⟩ z).setCell ⟨b, 3, none⟩ u).setCell ⟨b, 4, none⟩ v
theorem TokBox.set5 {w : World} {g : Nat} {k a s n : Int} {t : ByteArray} (h : TokBox w g k a s n t) (k2 a2 s2 n2 : Int) (t2 : ByteArray) : TokBox (set5 w g (.int .i64 k2) (.int .i64 a2) (.int .i64 s2) (.int .i64 n2) (.string t2)) g k2 a2 s2 n2 t2 := by
  unfold TokBox Go.Proofs.YtcmhnaanfkpheaaDoor.set5 at *
  simp [World.setCell, Array.getElem?_modify, h]
theorem below_set5 {B b : Nat} {w w1 : World} (h : Below B w w1) (hb : B ≤ b) (x y z u v : Value) : Below B w (set5 w1 b x y z u v) :=
  ((((h.setCell (p := ⟨b, 0, none⟩) hb x).setCell (p := ⟨b, 1, none⟩) hb y).setCell (p := ⟨b, 2, none⟩) hb z).setCell (p := ⟨b, 3, none⟩) hb u).setCell (p := ⟨b, 4, none⟩) hb v
theorem end_tok {f : Func} {p y : Tmp} (hf : f.results = #[.cell p 24, .tmp y]) {a : Act} {w : World} {b : Nat} {k q s n : Int} {t : ByteArray} {Q : Ending → World → Prop} (hp : a.tmps.getD p undef = .pointer (some ⟨b, 0, none⟩)) (hd : a.defers = []) (hx : TokBox w b k q s n t) {y1 : Value} (h1 : a.tmps.getD y undef = y1)
    (hq : Q (.returned (.tuple #[tokAgg k q s n t, y1])) w) : bodyPost Tryd.prog f Q .ret a w := by
  refine bodyPost_ret (v := .tuple #[tokAgg k q s n t, y1]) ?_ hd hq
  have hl := run_loadVar_row (P := Tryd.prog) w b 24 24 _ (0, 0) _ hx Tryd.underlying24 rfl (by kernel_rfl)
  have hp' : a.tmps[p]?.getD undef = .pointer (some ⟨b, 0, none⟩) := by simpa using hp
  have h1' : a.tmps[y]?.getD undef = y1 := by simpa using h1
  simp [results, hf, hp', asAddr, hl, h1', tokAgg, Result.andThen]
/-- A token, given back, at a place. -/
def GivesTok (w : World) (x : Tok) (q : Nat) (e : Ending) (w' : World) : Prop := e = .returned (.tuple #[tokAgg x.kind q x.size x.num (strL x.str), .int .i64 x.err]) ∧ Below w.heap.size w w'
end Go.Proofs.YtcmhnaanfkpheaaDoor
