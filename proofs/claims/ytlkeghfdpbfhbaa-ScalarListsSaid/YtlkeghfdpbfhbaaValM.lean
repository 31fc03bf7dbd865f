/- The order of values and rows. No walk. -/
import Derived.Test.YtlkeghfdpbfhbaaValueA
import Derived.Test.YtlkeghfdpbfhbaaRecs
import Derived.Test.YtlkeghfdpbfhbaaLib2
import Derived.Lib.Bytealg
namespace Go.Proofs.Ytlkeghfdpbfhbaa
set_option linter.unusedVariables false
open Go.ChangeShapes Go.WideShapes Go.ChangeAt Go.RowKit

def cmpI (a b : Int) : Int := if a < b then -1 else if b < a then 1 else 0
def cmpT (s t : ByteArray) : Int := Lib.compareBytes s.data.toList t.data.toList
/-- A value. -/
structure ValV where
  kind : Int
  num : Int
  str : ByteArray
def valCells (v : ValV) : List Value := [.int .i64 v.kind, .int .i64 v.num, .string v.str]
def valAgg (v : ValV) : Value := .agg #[.int .i64 v.kind, .int .i64 v.num, .string v.str]
def cmpV (a b : ValV) : Int := if cmpI a.kind b.kind = 0 then (if cmpI a.num b.num = 0 then cmpT a.str b.str else cmpI a.num b.num) else cmpI a.kind b.kind
/-- What Compare gives. -/
def compV (a b : ValV) : Int × Bool := if a.kind = b.kind then (if a.kind = 1 ∨ a.kind = 2 then (cmpI a.num b.num, true) else if a.kind = 3 then (cmpT a.str b.str, true) else (0, false)) else (0, false)
def cmpR : List ValV → List ValV → Int
  | [], [] => 0
  | [], _ :: _ => -1
  | _ :: _, [] => 1
  | a :: l, b :: m => if cmpV a b = 0 then cmpR l m else cmpV a b

theorem cmpI_zero {a b : Int} : cmpI a b = 0 ↔ a = b := by unfold cmpI; split <;> (try split) <;> omega
theorem cmpI_neg (a b : Int) : cmpI b a = -cmpI a b := by unfold cmpI; split <;> (try split) <;> (try split) <;> omega
theorem cmpI_range (a b : Int) : -1 ≤ cmpI a b ∧ cmpI a b ≤ 1 := by unfold cmpI; split <;> (try split) <;> omega
theorem cb_range : ∀ l m : List UInt8, -1 ≤ Lib.compareBytes l m ∧ Lib.compareBytes l m ≤ 1
  | [], [] => by decide
  | [], _ :: _ => by simp [Lib.compareBytes]
  | _ :: _, [] => by simp [Lib.compareBytes]
  | a :: l, b :: m => by
    simp only [Lib.compareBytes]
    have := cb_range l m
    split
    · omega
    · split
      · omega
      · exact this
theorem cb_zero : ∀ {l m : List UInt8}, Lib.compareBytes l m = 0 ↔ l = m
  | [], [] => by simp [Lib.compareBytes]
  | [], _ :: _ => by simp [Lib.compareBytes]
  | _ :: _, [] => by simp [Lib.compareBytes]
  | a :: l, b :: m => by
    simp only [Lib.compareBytes, List.cons.injEq]
    by_cases h1 : a < b
    · simp [h1, UInt8.ne_of_lt h1]
    · by_cases h2 : b < a
      · simp [h1, h2, (UInt8.ne_of_lt h2).symm]
      · have : a = b := UInt8.le_antisymm (UInt8.not_lt.1 h2) (UInt8.not_lt.1 h1)
        subst this
        simp [cb_zero (l := l) (m := m)]
theorem cb_neg : ∀ l m : List UInt8, Lib.compareBytes m l = -Lib.compareBytes l m
  | [], [] => by decide
  | [], _ :: _ => by simp [Lib.compareBytes]
  | _ :: _, [] => by simp [Lib.compareBytes]
  | a :: l, b :: m => by
    simp only [Lib.compareBytes]
    by_cases h1 : a < b
    · simp [h1, UInt8.not_lt.2 (UInt8.le_of_lt h1)]
    · by_cases h2 : b < a
      · simp [h1, h2]
      · simp [h1, h2, cb_neg l m]
/-- Up to level, and on: the order goes on. -/
theorem cb_trans : ∀ l m k : List UInt8, Lib.compareBytes l m ≤ 0 → Lib.compareBytes m k ≤ 0 → Lib.compareBytes l k ≤ 0
  | [], m, [], _, _ => by simp [Lib.compareBytes]
  | [], m, _ :: _, _, _ => by simp [Lib.compareBytes]
  | a :: l, [], k, h, _ => by simp [Lib.compareBytes] at h
  | a :: l, b :: m, [], _, h => by simp [Lib.compareBytes] at h
  | a :: l, b :: m, c :: k, h, g => by
    simp only [Lib.compareBytes] at h g ⊢
    by_cases h1 : a < b
    · by_cases g1 : b < c
      · simp [UInt8.lt_trans h1 g1]
      · by_cases g2 : c < b
        · simp [g1, g2] at g
        · have : b = c := UInt8.le_antisymm (UInt8.not_lt.1 g2) (UInt8.not_lt.1 g1)
          subst this
          simp [h1]
    · by_cases h2 : b < a
      · simp [h1, h2] at h
      · have : a = b := UInt8.le_antisymm (UInt8.not_lt.1 h2) (UInt8.not_lt.1 h1)
        subst this
        by_cases g1 : a < c
        · simp [g1]
        · by_cases g2 : c < a
          · simp [g1, g2] at g
          · have : a = c := UInt8.le_antisymm (UInt8.not_lt.1 g2) (UInt8.not_lt.1 g1)
            subst this
            simp at h g ⊢
            exact cb_trans l m k h g
theorem cmpT_zero {s t : ByteArray} : cmpT s t = 0 ↔ s = t := by
  unfold cmpT
  rw [cb_zero]
  exact ⟨fun h => ByteArray.ext (Array.ext' h), fun h => by rw [h]⟩
theorem cmpV_zero {a b : ValV} : cmpV a b = 0 ↔ a = b := by
  obtain ⟨k, n, s⟩ := a
  obtain ⟨k2, n2, s2⟩ := b
  unfold cmpV
  simp only [ValV.mk.injEq]
  by_cases h1 : cmpI k k2 = 0
  · rw [if_pos h1]
    by_cases h2 : cmpI n n2 = 0
    · rw [if_pos h2, cmpT_zero, cmpI_zero.1 h1, cmpI_zero.1 h2]; simp
    · rw [if_neg h2]
      exact ⟨fun h => absurd h h2, fun h => absurd (cmpI_zero.2 h.2.1) h2⟩
  · rw [if_neg h1]
    exact ⟨fun h => absurd h h1, fun h => absurd (cmpI_zero.2 h.1) h1⟩
theorem cmpV_neg (a b : ValV) : cmpV b a = -cmpV a b := by
  unfold cmpV
  have h1 := cmpI_neg a.kind b.kind
  have h2 := cmpI_neg a.num b.num
  have h3 : cmpT b.str a.str = -cmpT a.str b.str := cb_neg _ _
  by_cases e1 : cmpI a.kind b.kind = 0
  · by_cases e2 : cmpI a.num b.num = 0
    · rw [if_pos e1, if_pos (by omega), if_pos e2, if_pos (by omega), h3]
    · rw [if_pos e1, if_pos (by omega), if_neg e2, if_neg (by omega), h2]
  · rw [if_neg e1, if_neg (by omega), h1]
theorem cmpV_range (a b : ValV) : -1 ≤ cmpV a b ∧ cmpV a b ≤ 1 := by
  have h1 := cmpI_range a.kind b.kind
  have h2 := cmpI_range a.num b.num
  have h3 := cb_range a.str.data.toList b.str.data.toList
  unfold cmpV cmpT
  split
  · split <;> omega
  · omega
def lexI (f g : Int) : Int := if f = 0 then g else f
theorem lex_trans {f1 f2 f3 g1 g2 g3 : Int} (h1 : f1 ≤ 0 → f2 ≤ 0 → f3 ≤ 0) (h2 : f1 ≤ 0 → f2 ≤ 0 → f3 = 0 → f1 = 0 ∧ f2 = 0) (h3 : g1 ≤ 0 → g2 ≤ 0 → g3 ≤ 0) (a : lexI f1 g1 ≤ 0) (b : lexI f2 g2 ≤ 0) : lexI f3 g3 ≤ 0 := by
  unfold lexI at *
  split at a <;> split at b <;> split <;> omega
theorem cmpI_trans (a b c : Int) : (cmpI a b ≤ 0 → cmpI b c ≤ 0 → cmpI a c ≤ 0) ∧ (cmpI a b ≤ 0 → cmpI b c ≤ 0 → cmpI a c = 0 → cmpI a b = 0 ∧ cmpI b c = 0) := by
  unfold cmpI
  rcases Int.lt_trichotomy a b with h | h | h <;> rcases Int.lt_trichotomy b c with g | g | g <;> rcases Int.lt_trichotomy a c with k | k | k <;> (try omega) <;>
    simp [h, g, k, Int.lt_irrefl] <;> omega
theorem cmpV_lex (a b : ValV) : cmpV a b = lexI (cmpI a.kind b.kind) (lexI (cmpI a.num b.num) (cmpT a.str b.str)) := rfl
theorem cmpV_trans (a b c : ValV) (h : cmpV a b ≤ 0) (g : cmpV b c ≤ 0) : cmpV a c ≤ 0 := by
  rw [cmpV_lex] at *
  have t1 := cmpI_trans a.kind b.kind c.kind
  have t2 := cmpI_trans a.num b.num c.num
  exact lex_trans t1.1 t1.2 (lex_trans t2.1 t2.2 (cb_trans _ _ _)) h g
/-- Level up to there: the order of three. -/
theorem cmpV_level (a b c : ValV) (h : cmpV a b ≤ 0) (g : cmpV b c ≤ 0) (e : cmpV a c = 0) : cmpV a b = 0 ∧ cmpV b c = 0 := by
  obtain rfl := cmpV_zero.1 e
  have := cmpV_neg a b
  omega
end Go.Proofs.Ytlkeghfdpbfhbaa
