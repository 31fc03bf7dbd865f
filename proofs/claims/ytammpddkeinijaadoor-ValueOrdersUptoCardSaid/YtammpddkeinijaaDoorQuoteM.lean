/- Quotes doubled: the library's ReplaceAll. No walk. -/
import Derived.Test.YtammpddkeinijaaDoorValM
import Derived.Test.YtammpddkeinijaaDoorShelf
import Derived.Lib.Replace
namespace Go.Proofs.YtammpddkeinijaaDoor
set_option linter.unusedVariables false
open Go.ChangeShapes Go.WideShapes Go.ChangeAt Go.RowKit

def quoteL : List UInt8 → List UInt8
  | [] => []
  | c :: l => if c = 39 then 39 :: 39 :: quoteL l else c :: quoteL l
theorem quoteL_app : ∀ l m : List UInt8, quoteL (l ++ m) = quoteL l ++ quoteL m
  | [], m => rfl
  | c :: l, m => by
    simp only [List.cons_append, quoteL, quoteL_app l m]
    split <;> rfl
theorem quoteL_len : ∀ l : List UInt8, (quoteL l).length ≤ 2 * l.length
  | [] => by simp [quoteL]
  | c :: l => by
    have := quoteL_len l
    simp only [quoteL]
    split <;> simp <;> omega
theorem replace_quote : ∀ s : List UInt8, Lib.replaceK [39] [39, 39] (Lib.count s [39]) s = quoteL s
  | [] => by rw [Lib.count_one]; rfl
  | c :: l => by
    have ih := replace_quote l
    by_cases h : c = 39
    · subst h
      have hi : Lib.index (39 :: l) [39] = (0 : Nat) := by simp [Lib.index]
      have hc : Lib.count (39 :: l) [39] = Lib.count l [39] + 1 := by rw [Lib.count_one, Lib.count_one, List.count_cons_self]
      rw [hc, Lib.replaceK_hit _ _ _ _ 0 hi]
      simp [quoteL, ih]
    · have hc : Lib.count (c :: l) [39] = Lib.count l [39] := Lib.count_cons_ne c 39 l h
      have hq : quoteL (c :: l) = c :: quoteL l := by simp [quoteL, h]
      rw [hc, hq, ← ih]
      cases hk : Lib.count l [39] with
      | zero => rfl
      | succ k =>
        obtain ⟨i, hi⟩ := Lib.index_of_count (s := l) (old := [39]) (by omega)
        have hi2 : Lib.index (c :: l) [39] = ((i + 1 : Nat) : Int) := by
          have h0 : ¬ (39 : UInt8) = c := fun e => h e.symm
          simp [Lib.index, hi, h0]
        rw [Lib.replaceK_hit _ _ _ _ i hi, Lib.replaceK_hit _ _ _ _ (i + 1) hi2]
        simp
theorem replaceAll_quote (s : List UInt8) : Lib.replaceAll s [39] [39, 39] = quoteL s := by
  unfold Lib.replaceAll Lib.replace Lib.replaceNum
  rw [if_neg (by decide), if_pos (by omega)]
  exact replace_quote s
end Go.Proofs.YtammpddkeinijaaDoor
