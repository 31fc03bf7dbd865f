/- The contracts of Out and of the reference's. -/
import Derived.Test.YtjbnhaiiedajjaaDoorNumY2
import Derived.Test.YtjbnhaiiedajjaaDoorROrder
namespace Go.Proofs.YtjbnhaiiedajjaaDoor
set_option linter.unusedVariables false
open Go.ChangeShapes Go.WideShapes Go.ChangeAt Go.RowKit

/-- An item's cells: a star, its table; the term's kind, its value, table, name, the mark, its two lists; the other name. -/
structure ItemV where
  star : Bool
  tab : ByteArray
  op : Int
  kind : Int
  num : Int
  str : ByteArray
  tab2 : ByteArray
  nam : ByteArray
  dist : Bool
  kids : Value
  sub : Value
  as_ : ByteArray
def itemCells (i : ItemV) : Array Value := #[.bool i.star, .string i.tab, .int .i64 i.op, .int .i64 i.kind, .int .i64 i.num, .string i.str, .string i.tab2, .string i.nam, .bool i.dist, i.kids, i.sub, .string i.as_]
def outNum (at' : Int) : Int := if inN at' then at' + 1 else 1
def outP (i : ItemV) (at' : Int) : ByteArray :=
  if i.as_.toList.isEmpty then (if i.op = 2 ∨ i.op = 25 ∨ i.op = 24 then i.nam else { data := #[99] } ++ ⟨(Lib.itoa (outNum at')).toArray⟩) else i.as_
theorem outNum_bd (a : Int) : -1000000000000000 ≤ outNum a ∧ outNum a ≤ 1000000000000001 := by
  unfold outNum
  split
  · rename_i h
    have := (inN_iff a).1 h
    omega
  · omega
set_option maxHeartbeats 1000000 in
theorem out_c (i : ItemV) (a : Int) (w : World) (hW : NumW w) :
    Calls Tryd.prog 16 #[.agg (itemCells i), .int .i64 a] w fun e w' => e = .returned (.string (outP i a)) ∧ Below w.heap.size w w' := by
  obtain ⟨star, tab, op, kind, num, str, tab2, nam, dist, kids, sub, as_⟩ := i
  have HW := hide (hW.keep (Bel.one w (.cells #[.bool star, .string tab, .int .i64 op, .int .i64 kind, .int .i64 num, .string str, .string tab2, .string nam, .bool dist, kids, sub, .string as_] 46)))
  unfold itemCells outP
  simp only
  clear hW
  cases ha : as_.toList.isEmpty with
  | false =>
    simp only [Bool.false_eq_true, if_false]
    go_enter Tryd.func16, Tryd.ntmps16
    go_wp2
    go_ret
    exact ⟨rfl, Bel.one _ _⟩
  | true =>
    simp only [if_true]
    by_cases h2 : op = 2
    · subst h2
      rw [if_pos (.inl rfl)]
      go_enter Tryd.func16, Tryd.ntmps16
      go_wp2
      go_ret
      exact ⟨rfl, Bel.one _ _⟩
    by_cases h25 : op = 25
    · subst h25
      rw [if_pos (.inr (.inl rfl))]
      go_enter Tryd.func16, Tryd.ntmps16
      go_wp2
      go_ret
      exact ⟨rfl, Bel.one _ _⟩
    by_cases h24 : op = 24
    · subst h24
      rw [if_pos (.inr (.inr rfl))]
      go_enter Tryd.func16, Tryd.ntmps16
      go_wp2
      go_ret
      exact ⟨rfl, Bel.one _ _⟩
    rw [if_neg (by omega)]
    have f1 : (op == 2) = false := by simp [h2]
    have f2 : (op == 25) = false := by simp [h25]
    have f3 : (op == 24) = false := by simp [h24]
    clear h2 h25 h24
    have hb := outNum_bd a
    have hz := itoa_size (outNum a) (by omega) (by omega)
    cases hi : inN a with
    | true =>
      have hn := (inN_iff a).1 hi
      have he : outNum a = a + 1 := by unfold outNum; rw [if_pos hi]
      rw [he] at hz ⊢
      have q := fun W hW => text_c (a + 1) (by omega) (by omega) W hW
      generalize (⟨(Lib.itoa (a + 1)).toArray⟩ : ByteArray) = s at *
      have Q := hide q
      have HI := hide hi
      clear q hi he hb
      go_enter Tryd.func16, Tryd.ntmps16
      go_wp2_with (go_at_call 21; refine (in_c _ _).mono ?_; rw [HI.out]; rintro e w' ⟨rfl, rfl⟩)
      refine (Q.out _ HW.out).mono ?_
      rintro e w' ⟨rfl, hb⟩
      have HB := hide hb
      clear hb
      go_wp2
      go_ret
      exact ⟨rfl, Bel.then (Bel.one _ _) HB.out⟩
    | false =>
      have he : outNum a = 1 := by unfold outNum; rw [if_neg (by simp [hi])]
      rw [he] at hz ⊢
      have q := fun W hW => text_c 1 (by omega) (by omega) W hW
      generalize (⟨(Lib.itoa 1).toArray⟩ : ByteArray) = s at *
      have Q := hide q
      have HI := hide hi
      clear q hi he hb
      go_enter Tryd.func16, Tryd.ntmps16
      go_wp2_with (go_at_call 21; refine (in_c _ _).mono ?_; rw [HI.out]; rintro e w' ⟨rfl, rfl⟩)
      refine (Q.out _ HW.out).mono ?_
      rintro e w' ⟨rfl, hb⟩
      have HB := hide hb
      clear hb
      go_wp2
      go_ret
      exact ⟨rfl, Bel.then (Bel.one _ _) HB.out⟩
end Go.Proofs.YtjbnhaiiedajjaaDoor
