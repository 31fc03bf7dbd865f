/- Pages: New. -/
import Derived.Test.YtfdedkcidemimaaDoorPgW
namespace Go.Proofs.YtfdedkcidemimaaDoor
set_option linter.unusedVariables false
set_option linter.unusedSimpArgs false
open Go.ChangeShapes Go.WideShapes Go.ChangeAt Go.RowKit

def newS (k : Int) : ByteArray := if 0 ≤ k ∧ k ≤ 4 then layL ⟨0, k, 0, []⟩ else ⟨#[]⟩
theorem new_c (k : Int) (w : World) : Calls Tryd.prog 30 #[.int .i64 k] w fun e w' => e = .returned (.string (newS k)) ∧ Below w.heap.size w w' := by
  by_cases h0 : k < 0
  · have hv : newS k = ⟨#[]⟩ := by unfold newS; rw [if_neg (by omega)]
    rw [hv]
    clear hv
    go_enter Tryd.func30, Tryd.ntmps30
    go_wp2_with fail
    go_ret
    exact ⟨rfl, Below.refl _ _⟩
  · by_cases h1 : 4 < k
    · have hv : newS k = ⟨#[]⟩ := by unfold newS; rw [if_neg (by omega)]
      rw [hv]
      clear hv
      go_enter Tryd.func30, Tryd.ntmps30
      go_wp2_with fail
      go_ret
      exact ⟨rfl, Below.refl _ _⟩
    · have hv : newS k = layL ⟨0, k, 0, []⟩ := by unfold newS; rw [if_pos ⟨by omega, by omega⟩]
      rw [hv]
      have Q := hide (fun W => bytes_c 0 k 0 none 0 0 [] W (SlAt.empty stC 1 W W.heap.size) (by decide) ⟨by omega, by omega⟩)
      generalize layL ⟨0, k, 0, []⟩ = R at *
      clear hv
      go_enter Tryd.func30, Tryd.ntmps30
      go_wp2_with fail
      refine (Q.out _).mono ?_
      rintro e w4 ⟨rfl, hb⟩
      go_wp2_with fail
      go_ret
      exact ⟨rfl, hb⟩
end Go.Proofs.YtfdedkcidemimaaDoor
