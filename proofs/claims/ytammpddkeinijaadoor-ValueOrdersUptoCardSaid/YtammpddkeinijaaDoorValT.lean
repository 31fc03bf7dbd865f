/- Contracts of value.Text and of its reference. -/
import Derived.Test.YtammpddkeinijaaDoorValRR
import Derived.Test.YtammpddkeinijaaDoorValNumY2
import Derived.Test.YtammpddkeinijaaDoorQuoteM
namespace Go.Proofs.YtammpddkeinijaaDoor
set_option linter.unusedVariables false
open Go.ChangeShapes Go.WideShapes Go.ChangeAt Go.RowKit

/-- What the walks are told of variables: the table of powers; some number in the library's MaxLen. -/
structure ValW (w : World) : Prop where
  num : NumW w
  max : ∃ m, w.cell? ⟨0, 0, none⟩ = some (.int .i64 m)
theorem ValW.keep {w w' : World} (h : ValW w) (hb : Below w.heap.size w w') : ValW w' := ⟨h.num.keep hb, let ⟨m, hm⟩ := h.max; ⟨m, kept hb hm⟩⟩
def quoteP (s : ByteArray) : ByteArray := ⟨(39 :: (quoteL s.data.toList ++ [39])).toArray⟩
def textV (v : ValV) : ByteArray :=
  if v.kind = 1 then (if v.num = 0 then { data := #[102, 97, 108, 115, 101] } else { data := #[116, 114, 117, 101] })
  else if v.kind = 2 then ⟨(Lib.itoa v.num).toArray⟩
  else if v.kind = 3 then quoteP v.str
  else { data := #[110, 117, 108, 108] }
theorem quote_parts (s : ByteArray) : ({ data := #[39] } ++ ⟨(quoteL s.data.toList).toArray⟩ ++ { data := #[39] } : ByteArray) = quoteP s := by
  apply ByteArray.ext
  unfold quoteP
  simp [ByteArray.data_append]
set_option maxHeartbeats 1000000 in
theorem vtext_c (v : ValV) (w : World) (hW : ValW w) (hn : -9223372036854775808 ≤ v.num ∧ v.num ≤ 9223372036854775807) (hs : v.str.size ≤ 1048576) :
    Calls Tryd.prog 17 #[valAgg v] w fun e w' => e = .returned (.string (textV v)) ∧ Below w.heap.size w w' := by
  obtain ⟨k, n, s⟩ := v
  unfold valAgg textV
  simp only at *
  have HW := hide (hW.keep (Bel.one w (.cells #[.int .i64 k, .int .i64 n, .string s] 23)))
  clear hW
  rcases (show k = 1 ∨ k = 2 ∨ k = 3 ∨ (¬ k = 1 ∧ ¬ k = 2 ∧ ¬ k = 3) by omega) with rfl | rfl | rfl | ⟨g1, g2, g3⟩
  · rw [if_pos rfl]
    by_cases h0 : n = 0
    · subst h0
      rw [if_pos rfl]
      go_enter Tryd.func17, Tryd.ntmps17
      go_wp2
      go_ret
      exact ⟨rfl, Bel.one _ _⟩
    · rw [if_neg h0]
      have f : (n == 0) = false := by simp [h0]
      clear h0
      go_enter Tryd.func17, Tryd.ntmps17
      go_wp2
      go_ret
      exact ⟨rfl, Bel.one _ _⟩
  · rw [if_neg (by omega), if_pos rfl]
    go_enter Tryd.func17, Tryd.ntmps17
    go_wp2_with fail
    refine (text_c n hn.1 hn.2 _ HW.out.num).mono ?_
    rintro e w1 ⟨rfl, hb⟩
    have HB := hide (Bel.then (Bel.one _ _) hb)
    clear hb
    go_wp2_with fail
    go_ret
    exact ⟨rfl, HB.out⟩
  · rw [if_neg (by omega), if_neg (by omega), if_pos rfl]
    obtain ⟨m, hm⟩ := HW.out.max
    have hc := Lib.countB_le { data := #[39] } (by decide) s.size s (Nat.le_refl _)
    have q := Tryd.strings_ReplaceAll s { data := #[39] } { data := #[39, 39] } m _ (by omega) hm (by decide) (by show s.size + Lib.countB s _ * 2 ≤ _; omega)
    rw [show ({ data := #[39] } : ByteArray).data.toList = [39] from rfl, show ({ data := #[39, 39] } : ByteArray).data.toList = [39, 39] from rfl, replaceAll_quote] at q
    have hp := quote_parts s
    have hz : ((⟨(quoteL s.data.toList).toArray⟩ : ByteArray).size : Int) ≤ 4194304 := by
      have h1 := quoteL_len s.data.toList
      have h2 := str_len s
      show (((quoteL s.data.toList).toArray.size : Nat) : Int) ≤ _
      rw [List.size_toArray]
      omega
    generalize (⟨(quoteL s.data.toList).toArray⟩ : ByteArray) = x at *
    have Q := hide q
    have HP := hide hp
    clear q hp hm hc
    go_enter Tryd.func17, Tryd.ntmps17
    go_wp2_with fail
    refine Q.out.mono ?_
    rintro e w1 ⟨rfl, hb⟩
    have HB := hide (Bel.then (Bel.one _ _) hb)
    clear hb
    go_wp2_with fail
    go_ret
    refine ⟨?_, HB.out⟩
    rw [← HP.out]
    rfl
  · rw [if_neg g1, if_neg g2, if_neg g3]
    have f1 : (k == 1) = false := by simp [g1]
    have f2 : (k == 2) = false := by simp [g2]
    have f3 : (k == 3) = false := by simp [g3]
    clear g1 g2 g3
    go_enter Tryd.func17, Tryd.ntmps17
    go_wp2
    go_ret
    exact ⟨rfl, Bel.one _ _⟩
end Go.Proofs.YtammpddkeinijaaDoor
