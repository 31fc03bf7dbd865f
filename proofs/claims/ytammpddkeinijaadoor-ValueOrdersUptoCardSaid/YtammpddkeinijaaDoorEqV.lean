/- Two values are the same, or not: the comparison's run. -/
import Derived.Test.YtammpddkeinijaaDoorValO
import Derived.Test.YtammpddkeinijaaDoorRowM
namespace Go.Proofs.YtammpddkeinijaaDoor
set_option linter.unusedVariables false
open Go.ChangeShapes Go.WideShapes Go.ChangeAt Go.RowKit

theorem eqV_run (ak an bk bn : Int) (ax bs : ByteArray) : ∃ e : Bool, (e = true ↔ (⟨ak, an, ax⟩ : ValV) = ⟨bk, bn, bs⟩) ∧ ∀ w : World, (Op.equalIn 10000 23 (.agg #[.int .i64 ak, .int .i64 an, .string ax]) (.agg #[.int .i64 bk, .int .i64 bn, .string bs])).run Tryd.prog w = .ok e w := by
  by_cases h1 : ak = bk
  · subst h1
    by_cases h2 : an = bn
    · subst h2
      by_cases h3 : ax = bs
      · subst h3
        refine ⟨true, by simp, fun w => ?_⟩
        go_simp
      · have f : (ax.toList == bs.toList) = false := by
          cases hq : (ax.toList == bs.toList)
          · rfl
          · have := eq_of_beq hq
            rw [ByteArray.toList_eq, ByteArray.toList_eq] at this
            exact absurd (ByteArray.ext (Array.toList_inj.1 this)) h3
        refine ⟨false, by simp [h3], fun w => ?_⟩
        go_simp
    · have f : (an == bn) = false := by simp [h2]
      refine ⟨false, by simp [h2], fun w => ?_⟩
      clear h2
      go_simp
  · have f : (ak == bk) = false := by simp [h1]
    refine ⟨false, by simp [h1], fun w => ?_⟩
    clear h1
    go_simp
theorem comp_kind (a b : ValV) (h : (compV a b).2 = true) : a.kind ≠ 0 ∧ a.kind = b.kind := by
  unfold compV at h
  by_cases h1 : a.kind = b.kind
  · rw [if_pos h1] at h
    refine ⟨fun h0 => ?_, h1⟩
    rw [if_neg (by omega), if_neg (by omega)] at h
    cases h
  · rw [if_neg h1] at h
    cases h
theorem empty_of {s : ByteArray} (h : s.toList.isEmpty = true) : s = { data := #[] } := by
  rw [ByteArray.toList_eq] at h
  exact ByteArray.ext (Array.toList_inj.1 (by simpa using h))
theorem comp_right (a b : ValV) (h : (compV a b).2 = true) (ha : rightV a.kind a.num a.str = true) (hb : rightV b.kind b.num b.str = true) : (compV a b).1 = cmpV a b := by
  have hk := comp_kind a b h
  obtain ⟨ak, an, ax⟩ := a
  obtain ⟨bk, bn, bs⟩ := b
  simp only at *
  obtain ⟨h0, rfl⟩ := hk
  unfold compV cmpV at *
  simp only [if_true, cmpI_zero.2 rfl] at *
  by_cases h1 : ak = 1 ∨ ak = 2
  · rw [if_pos h1]
    have hx : ∀ (n : Int) (s : ByteArray), rightV ak n s = true → s.toList.isEmpty = true := by
      intro n s hs
      unfold rightV at hs
      rcases h1 with rfl | rfl
      · rw [if_neg (by omega), if_pos rfl, Bool.and_eq_true] at hs; exact hs.2
      · rw [if_neg (by omega), if_neg (by omega), if_pos rfl, Bool.and_eq_true] at hs; exact hs.2
    have e1 : ax = bs := by rw [empty_of (hx _ _ ha), empty_of (hx _ _ hb)]
    subst e1
    have : cmpT ax ax = 0 := cmpT_zero.2 rfl
    simp only [this]
    split <;> omega
  · rw [if_neg h1] at h ⊢
    by_cases h3 : ak = 3
    · rw [if_pos h3] at h ⊢
      have hx : ∀ (n : Int) (s : ByteArray), rightV ak n s = true → n = 0 := by
        intro n s hs
        unfold rightV at hs
        rw [if_neg (by omega), if_neg (by omega), if_neg (by omega), if_pos h3, Bool.and_eq_true] at hs
        exact of_decide_eq_true hs.1
      have e1 : an = bn := by rw [hx _ _ ha, hx _ _ hb]
      subst e1
      simp only [cmpI_zero.2 rfl, if_true]
    · rw [if_neg h3] at h
      cases h
end Go.Proofs.YtammpddkeinijaaDoor
