/- The walks of RowcodeBack, RowcodeOne. -/
import Derived.Test.YtfkccmkggggpbaaRcX
namespace Go.Proofs.Ytfkccmkggggpbaa
set_option linter.unusedVariables false
open Go.ChangeShapes Go.WideShapes Go.ChangeAt Go.RowKit

theorem okV_of_right {v : ValV} (h : rightP v = true) : OkV v := by
  rcases right_kinds h with rfl | rfl | rfl | ⟨n, rfl, hn⟩ | ⟨s, rfl, hs⟩
  · exact ⟨⟨by decide, by decide⟩, by decide⟩
  · exact ⟨⟨by decide, by decide⟩, by decide⟩
  · exact ⟨⟨by decide, by decide⟩, by decide⟩
  · have := inN_iff.1 hn
    exact ⟨⟨show -9223372036854775808 ≤ n by omega, show n ≤ 9223372036854775807 by omega⟩, show (ByteArray.empty).size ≤ 1048576 by decide⟩
  · have := (plain_iff.1 hs).1
    exact ⟨⟨show (-9223372036854775808 : Int) ≤ 0 by decide, show (0 : Int) ≤ 9223372036854775807 by decide⟩, show s.size ≤ 1048576 by omega⟩
theorem strL_str (s : ByteArray) : strL s.data.toList = s := str_eta s
theorem strL_toList (l : List UInt8) : (strL l).data.toList = l := rfl
theorem strL_inj {l m : List UInt8} : strL l = strL m ↔ l = m := ⟨fun h => by have := congrArg (fun s => s.data.toList) h; exact this, fun h => by rw [h]⟩
theorem sizeR_ok {r : List ValV} (h : OkR r) : sizeR r = ((bytesR r).length : Int) := by
  unfold sizeR
  rw [if_pos h.right, bytes_len h.right]
set_option maxHeartbeats 1000000 in
theorem one_w (s : ByteArray) (w : World) (hm : s.size ≤ 1048576) :
    Calls Try.prog 6 #[.string s] w fun e w' => e = .returned (.bool true) ∧ Below w.heap.size w w' := by
  have QA := hide (fun W => awake_c W)
  have QG := hide (fun W => getR_c s W hm)
  have hgb := fun r => @get_back s.data.toList r
  have hge := get_err s.data.toList
  generalize getG s.data.toList = x at *
  obtain ⟨x1, x2⟩ := x
  by_cases h600 : s.size ≤ 600
  · by_cases h0 : x1 = 0
    · subst h0
      obtain ⟨ho, hl⟩ := hgb x2 rfl
      have hn32 := ho.len
      have hr : ∀ a ∈ x2, OkV a := fun a ha => okV_of_right (List.all_eq_true.1 ho.right a ha)
      have QP := hide (fun (W : World) (A : Option Addr) (c : Nat) (h : RowAt W W.heap.size A x2.length c x2) => putR_c A _ c x2 W h (by omega) hr)
      have QR := hide (fun (W : World) (A : Option Addr) (c : Nat) (h : RowAt W W.heap.size A x2.length c x2) => rrights_c A _ c x2 W h (by omega) hr)
      have hp : putG x2 = (0, bytesR x2) := by
        rcases putG_cases x2 with ⟨_, h⟩ | ⟨h, _⟩ | ⟨_, h, _⟩
        · exact h
        · rw [ho.right] at h; cases h
        · exact absurd ho h
      rw [hp] at QP
      unfold GivesP at QP
      simp only at QP
      rw [← hl, strL_str] at QP
      rw [ho.right] at QR
      clear hp hl hr ho hgb hge
      go_enter Try.func6, Try.ntmps6
      go_wp2_with fail
      refine (QG.out _).mono ?_
      rintro e w1 ⟨A1, c1, rfl, hr1, hb⟩
      have HR1 := hide hr1
      have HB1 := hide hb
      clear hb hr1
      simp only at HR1
      go_wp2_with fail
      refine (QP.out _ _ _ HR1.out).mono ?_
      rintro e w2 ⟨rfl, hb⟩
      have HR2 := hide (HR1.out.kept hb)
      have HB2 := hide (Bel.then HB1.out hb)
      clear hb HB1 HR1
      go_wp2_with fail
      refine (QA.out _).mono ?_
      rintro e w3 ⟨rfl, hb⟩
      have HR3 := hide (HR2.out.kept hb)
      have HB3 := hide (Bel.then HB2.out hb)
      clear hb HB2 HR2
      go_wp2_with fail
      refine (QR.out _ _ _ HR3.out).mono ?_
      rintro e w4 ⟨rfl, hb⟩
      have HB4 := hide (Bel.then HB3.out hb)
      clear hb HB3
      go_wp2_with fail
      go_ret
      exact ⟨rfl, HB4.out⟩
    · have hx2 : x2 = [] := by
        rcases hge with h | ⟨_, h⟩
        · exact absurd h h0
        · exact h
      have hx1 : x1 = 2 ∨ x1 = 3 ∨ x1 = 4 := by
        rcases hge with h | ⟨h, _⟩
        · exact absurd h h0
        · exact h
      subst hx2
      clear hge hgb h0
      rcases hx1 with rfl | rfl | rfl
      all_goals
        go_enter Try.func6, Try.ntmps6
        go_wp2_with fail
        refine (QG.out _).mono ?_
        rintro e w1 ⟨A1, c1, rfl, _, hb⟩
        have HB1 := hide hb
        clear hb
        simp only [List.length_nil]
        go_wp2_with fail
        refine (QA.out _).mono ?_
        rintro e w3 ⟨rfl, hb⟩
        have HB3 := hide (Bel.then HB1.out hb)
        clear hb HB1
        go_wp2_with fail
        go_ret
        exact ⟨rfl, HB3.out⟩
  · go_enter Try.func6, Try.ntmps6
    go_wp2_with fail
    refine (QA.out _).mono ?_
    rintro e w1 ⟨rfl, hb1⟩
    have HB := hide hb1
    clear hb1
    go_wp2_with fail
    go_ret
    exact ⟨rfl, HB.out⟩
end Go.Proofs.Ytfkccmkggggpbaa
