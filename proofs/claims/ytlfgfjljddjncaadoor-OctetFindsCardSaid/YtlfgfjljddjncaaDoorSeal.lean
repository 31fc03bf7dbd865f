/- Contracts of octet.Seal, Open, PutText; what is awake. -/
import Derived.Test.YtlfgfjljddjncaaDoorPut
namespace Go.Proofs.YtlfgfjljddjncaaDoor
set_option linter.unusedVariables false
open Go.ChangeShapes Go.WideShapes Go.ChangeAt Go.RowKit

theorem putL_len : ∀ (k : Nat) (n : Int), (putL n k).length = k
  | 0, _ => rfl
  | k + 1, n => by rw [putL, List.length_append, putL_len k]; rfl
theorem strOf_size (l : List Int) : (strOfNums l).size = l.length := by
  show (strOfNums l).data.size = l.length
  simp [strOfNums]
def sealP (s : ByteArray) : ByteArray := strOfNums (putL (sumP s) 4) ++ s
theorem ret_str {s t : ByteArray} (h : s = t) : Ending.returned (.string s) = Ending.returned (.string t) := by rw [h]
theorem seal_c (s : ByteArray) (hs : s.size ≤ 8388608) (w : World) (hT : TabW w) :
    Calls Tryd.prog 19 #[.string s] w fun e w' => e = .returned (.string (sealP s)) ∧ Below w.heap.size w w' := by
  have HT := hide hT
  clear hT
  have q1 := fun W => sum_c s (by omega) W
  have q2 := fun W => put4 (sumP s) W
  have hz : ((strOfNums (putL (sumP s) 4)).size : Int) ≤ 8388608 := by rw [strOf_size, putL_len]; omega
  have hs2 : (s.size : Int) ≤ 8388608 := by omega
  have e : sealP s = strOfNums (putL (sumP s) 4) ++ s := rfl
  generalize strOfNums (putL (sumP s) 4) = x at *
  generalize sumP s = n at *
  have Q1 := hide q1
  have Q2 := hide q2
  have E := hide e
  clear q1 q2 e
  go_enter Tryd.func19, Tryd.ntmps19
  go_wp2_with fail
  refine (Q1.out _ HT.out).mono ?_
  rintro e w' ⟨rfl, rfl⟩
  go_wp2_with fail
  refine (Q2.out _).mono ?_
  rintro e w' ⟨rfl, hb⟩
  go_wp2_with fail
  go_ret
  exact ⟨ret_str (by rw [E.out]), hb⟩
def putTextP (s : ByteArray) : ByteArray := strOfNums (putL s.size 2) ++ s
theorem putText_c (s : ByteArray) (hs : s.size ≤ 65535) (w : World) :
    Calls Tryd.prog 15 #[.string s] w fun e w' => e = .returned (.string (putTextP s)) ∧ Below w.heap.size w w' := by
  have q2 := fun W => put2 s.size W
  have hz : ((strOfNums (putL s.size 2)).size : Int) ≤ 8388608 := by rw [strOf_size, putL_len]; omega
  have hs1 : (s.size : Int) ≤ 65535 := by omega
  have hs2 : (s.size : Int) ≤ 8388608 := by omega
  have e : putTextP s = strOfNums (putL s.size 2) ++ s := rfl
  generalize strOfNums (putL s.size 2) = x at *
  have Q2 := hide q2
  have E := hide e
  clear q2 e
  go_enter Tryd.func15, Tryd.ntmps15
  go_wp2_with fail
  refine (Q2.out _).mono ?_
  rintro e w' ⟨rfl, hb⟩
  go_wp2_with fail
  go_ret
  exact ⟨ret_str (by rw [E.out]), hb⟩
theorem ret_sb {s t : ByteArray} {a b : Bool} (h : s = t) (k : a = b) : Ending.returned (.tuple #[.string s, .bool a]) = Ending.returned (.tuple #[.string t, .bool b]) := by rw [h, k]
def openP (t : ByteArray) : ByteArray × Bool := if (getP t 0 4).2 && ((getP t 0 4).1 == sumP (t.extract 4 t.size)) then (t.extract 4 t.size, true) else (⟨#[]⟩, false)
theorem getP_four (t : ByteArray) : (t.size < 4 ∧ (getP t 0 4) = (0, false)) ∨ (4 ≤ t.size ∧ (getP t 0 4).2 = true) := by
  unfold getP
  by_cases h : t.size < 4
  · rw [if_neg (by omega)]; exact .inl ⟨h, rfl⟩
  · rw [if_pos (by omega)]; exact .inr ⟨by omega, rfl⟩
theorem open_c (t : ByteArray) (hm : t.size ≤ 9223372036854775807) (w : World) (hT : TabW w) :
    Calls Tryd.prog 17 #[.string t] w fun e w' => e = .returned (.tuple #[.string (openP t).1, .bool (openP t).2]) ∧ w = w' := by
  have HT := hide hT
  clear hT
  have q1 := fun W => get_c t 0 4 hm W
  have q2 := fun W => sum_c (t.extract 4 t.size) (by rw [ByteArray.size_extract]; omega) W
  have hp : openP t = if (getP t 0 4).2 && ((getP t 0 4).1 == sumP (t.extract 4 t.size)) then (t.extract 4 t.size, true) else (⟨#[]⟩, false) := rfl
  rcases getP_four t with ⟨h, hg⟩ | ⟨h, hg⟩
  · rw [hg] at q1 hp
    rw [hp]
    have Q1 := hide q1
    clear q1 q2 hp hg
    go_enter Tryd.func17, Tryd.ntmps17
    go_wp2_with fail
    refine (Q1.out _).mono ?_
    rintro e w' ⟨rfl, rfl⟩
    go_wp2_with fail
    go_ret2
    exact ⟨rfl, rfl⟩
  · have h4 : (4 : Int) ≤ t.size := by omega
    generalize getP t 0 4 = p at *
    obtain ⟨v, ok⟩ := p
    simp only at hg q1 hp
    subst hg
    generalize sumP (t.extract 4 t.size) = z at *
    cases hv : v == z
    all_goals
      rw [hp, hv]
      have Q1 := hide q1
      have Q2 := hide q2
      clear q1 q2 hp
      go_enter Tryd.func17, Tryd.ntmps17
      go_wp2_with fail
      refine (Q1.out _).mono ?_
      rintro e w' ⟨rfl, rfl⟩
      go_wp2_with fail
      refine (Q2.out _ HT.out).mono ?_
      rintro e w' ⟨rfl, rfl⟩
      go_wp2_with fail
      go_ret2
      exact ⟨rfl, rfl⟩
end Go.Proofs.YtlfgfjljddjncaaDoor
