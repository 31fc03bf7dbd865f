/- Contracts of GetText and PutText and of their references. -/
import Derived.Test.YtlfgfjljddjncaaDoorPutM
import Derived.Test.YtlfgfjljddjncaaDoorOctL
import Derived.OwnWalk
namespace Go.Proofs.YtlfgfjljddjncaaDoor
set_option linter.unusedVariables false
open Go.ChangeShapes Go.WideShapes Go.ChangeAt Go.RowKit

def gtP (s : ByteArray) (a : Int) : ByteArray × Int × Bool :=
  if (getP s a 2).2 && decide ((getP s a 2).1 ≤ s.size - a - 2) then (s.extract (a + 2).toNat (a + 2 + (getP s a 2).1).toNat, a + 2 + (getP s a 2).1, true) else ({ data := #[] }, 0, false)
theorem getP_two (s : ByteArray) (a : Int) : getP s a 2 = (0, false) ∨ ∃ n, getP s a 2 = (n, true) ∧ 0 ≤ n ∧ n ≤ 65535 ∧ 0 ≤ a ∧ a + 2 ≤ s.size := by
  unfold getP
  by_cases h : (1 : Int) ≤ 2 ∧ (2 : Int) ≤ 8 ∧ 0 ≤ a ∧ a + 2 ≤ s.size
  · rw [if_pos h]
    right
    have e : numU s a (2 : Int).toNat = stepU (stepU 0 (byteAt s (a + (0 : Nat)).toNat)) (byteAt s (a + (1 : Nat)).toNat) := rfl
    have h0 := (byteAt s (a + (0 : Nat)).toNat).toNat_lt
    have h1 := (byteAt s (a + (1 : Nat)).toNat).toNat_lt
    rw [e, stepU_add 0 _ (by omega) (by omega), stepU_add _ _ (by omega) (by omega)]
    refine ⟨_, rfl, ?_, ?_, h.2.2.1, h.2.2.2⟩
    · rw [IntWalk.wrap64_in _ (by omega)]; omega
    · rw [IntWalk.wrap64_in _ (by omega)]; omega
  · rw [if_neg h]; exact .inl rfl
theorem getText_c (s : ByteArray) (a : Int) (hm : s.size ≤ 4000000) (w : World) :
    Calls Tryd.prog 13 #[.string s, .int .i64 a] w fun e w' => e = .returned (.tuple #[.string (gtP s a).1, .int .i64 (gtP s a).2.1, .bool (gtP s a).2.2]) ∧ w = w' := by
  have q1 := fun W => get_c s a 2 (by omega) W
  have hp : gtP s a = if (getP s a 2).2 && decide ((getP s a 2).1 ≤ s.size - a - 2) then (s.extract (a + 2).toNat (a + 2 + (getP s a 2).1).toNat, a + 2 + (getP s a 2).1, true) else ({ data := #[] }, 0, false) := rfl
  rcases getP_two s a with hg | ⟨n, hg, h0, h1, h2, h3⟩
  · rw [hg] at q1 hp
    rw [hp, if_neg (by simp)]
    have Q1 := hide q1
    clear q1 hp hg
    go_enter Tryd.func13, Tryd.ntmps13
    go_wp2_with fail
    refine (Q1.out _).mono ?_
    rintro e w' ⟨rfl, rfl⟩
    go_wp2_with fail
    go_ret3
    exact ⟨rfl, rfl⟩
  · rw [hg] at q1 hp
    have Q1 := hide q1
    clear q1 hg
    rw [hp]
    have hm2 : (s.size : Int) ≤ 4000000 := by omega
    by_cases h : n ≤ s.size - a - 2
    · rw [if_pos (by simp [h])]
      have h5 : a + 2 + n ≤ s.size := by omega
      have hsl : ∀ W, (Instr.slice 9 (.string s) (some (.int .i64 (a + 2))) (some (.int .i64 (a + 2 + n))) none).run Tryd.prog W = .ok (.string (s.extract (a + 2).toNat (a + 2 + n).toNat)) W := fun W => run_slice_string (P := Tryd.prog) W 9 s .i64 .i64 (a + 2) (a + 2 + n) Tryd.underlying9 (by omega) (by omega) h5
      generalize s.extract (a + 2).toNat (a + 2 + n).toNat = c at *
      clear hp
      go_enter Tryd.func13, Tryd.ntmps13
      go_wp2_with fail
      refine (Q1.out _).mono ?_
      rintro e w' ⟨rfl, rfl⟩
      go_wp2_with fail
      go_ret3
      exact ⟨rfl, rfl⟩
    · rw [if_neg (by simp [h])]
      clear hp
      go_enter Tryd.func13, Tryd.ntmps13
      go_wp2_with fail
      refine (Q1.out _).mono ?_
      rintro e w' ⟨rfl, rfl⟩
      go_wp2_with fail
      go_ret3
      exact ⟨rfl, rfl⟩
theorem rgetText_c (s : ByteArray) (a : Int) (hm : s.size ≤ 4000000) (ha : -9223372036854775808 ≤ a) (w : World) :
    Calls Tryd.prog 14 #[.string s, .int .i64 a] w fun e w' => e = .returned (.tuple #[.string (gtP s a).1, .int .i64 (gtP s a).2.1, .bool (gtP s a).2.2]) ∧ w = w' := by
  have q1 := fun W => rget_c s a 2 (by omega) ha W
  have hp : gtP s a = if (getP s a 2).2 && decide ((getP s a 2).1 ≤ s.size - a - 2) then (s.extract (a + 2).toNat (a + 2 + (getP s a 2).1).toNat, a + 2 + (getP s a 2).1, true) else ({ data := #[] }, 0, false) := rfl
  rcases getP_two s a with hg | ⟨n, hg, h0, h1, h2, h3⟩
  · rw [hg] at q1 hp
    rw [hp, if_neg (by simp)]
    have Q1 := hide q1
    clear q1 hp hg
    go_enter Tryd.func14, Tryd.ntmps14
    go_wp2_with fail
    refine (Q1.out _).mono ?_
    rintro e w' ⟨rfl, rfl⟩
    go_wp2_with fail
    go_ret3
    exact ⟨rfl, rfl⟩
  · rw [hg] at q1 hp
    have Q1 := hide q1
    clear q1 hg
    rw [hp]
    have hm2 : (s.size : Int) ≤ 4000000 := by omega
    by_cases h : n ≤ s.size - a - 2
    · rw [if_pos (by simp [h])]
      have h5 : a + 2 + n ≤ s.size := by omega
      have hsl : ∀ W, (Instr.slice 9 (.string s) (some (.int .i64 (a + 2))) (some (.int .i64 (a + 2 + n))) none).run Tryd.prog W = .ok (.string (s.extract (a + 2).toNat (a + 2 + n).toNat)) W := fun W => run_slice_string (P := Tryd.prog) W 9 s .i64 .i64 (a + 2) (a + 2 + n) Tryd.underlying9 (by omega) (by omega) h5
      generalize s.extract (a + 2).toNat (a + 2 + n).toNat = c at *
      clear hp
      have HT : Hid (thereB s (a + 2) n = true) := by show thereB _ _ _ = _; unfold thereB; simp; omega
      go_enter Tryd.func14, Tryd.ntmps14
      go_wp2_with fail
      refine (Q1.out _).mono ?_
      rintro e w' ⟨rfl, rfl⟩
      go_wp2_with (first | (go_at_call 24; refine (there_c _ _ _ (by omega) (by omega) _).mono ?_; rw [HT.out]; rintro e w' ⟨rfl, rfl⟩))
      go_ret3
      exact ⟨rfl, rfl⟩
    · rw [if_neg (by simp [h])]
      clear hp
      have HT : Hid (thereB s (a + 2) n = false) := by show thereB _ _ _ = _; unfold thereB; simp; omega
      go_enter Tryd.func14, Tryd.ntmps14
      go_wp2_with fail
      refine (Q1.out _).mono ?_
      rintro e w' ⟨rfl, rfl⟩
      go_wp2_with (first | (go_at_call 24; refine (there_c _ _ _ (by omega) (by omega) _).mono ?_; rw [HT.out]; rintro e w' ⟨rfl, rfl⟩))
      go_ret3
      exact ⟨rfl, rfl⟩
def cutS (s : ByteArray) : ByteArray := if s.size ≤ 65535 then s else s.extract 0 65535
def ptP (s : ByteArray) : ByteArray := strOfNums (putL (cutS s).size 2) ++ cutS s
theorem cutS_size (s : ByteArray) : (cutS s).size ≤ 65535 := by
  unfold cutS
  split
  · assumption
  · rw [ByteArray.size_extract]; omega
theorem putP2 (n : Int) : putP n 2 = strOfNums (putL n 2) := putP_in n 2 (by omega)
theorem put2_size (n : Int) : ((strOfNums (putL n 2)).size : Int) = 2 := by rw [strOf_size, putL_len]; rfl
theorem putT_c (s : ByteArray) (w : World) :
    Calls Tryd.prog 15 #[.string s] w fun e w' => e = .returned (.string (ptP s)) ∧ Below w.heap.size w w' := by
  have q := fun W => put2 (cutS s).size W
  have hz := put2_size (cutS s).size
  have hc := cutS_size s
  have e : ptP s = strOfNums (putL (cutS s).size 2) ++ cutS s := rfl
  by_cases h : s.size ≤ 65535
  · rw [show cutS s = s from if_pos h] at *
    generalize strOfNums (putL s.size 2) = x at *
    have Q := hide q
    have E := hide e
    clear q e
    have hs1 : (s.size : Int) ≤ 65535 := by omega
    have hs2 : (s.size : Int) ≤ 8388608 := by omega
    have hx : (x.size : Int) ≤ 8388608 := by omega
    go_enter Tryd.func15, Tryd.ntmps15
    go_wp2_with fail
    refine (Q.out _).mono ?_
    rintro e w' ⟨rfl, hb⟩
    go_wp2_with fail
    go_ret
    exact ⟨ret_str (by rw [E.out]), hb⟩
  · have hcs : s.extract 0 65535 = cutS s := (if_neg h).symm
    generalize cutS s = c at *
    generalize strOfNums (putL c.size 2) = x at *
    have Q := hide q
    have E := hide e
    clear q e
    have hs1 : (65535 : Int) < s.size := by omega
    have hs2 : (c.size : Int) ≤ 8388608 := by omega
    have hx : (x.size : Int) ≤ 8388608 := by omega
    go_enter Tryd.func15, Tryd.ntmps15
    go_wp2_with fail
    refine (Q.out _).mono ?_
    rintro e w' ⟨rfl, hb⟩
    go_wp2_with fail
    go_ret
    exact ⟨ret_str (by rw [E.out]), hb⟩
theorem rputT_c (s : ByteArray) (w : World) :
    Calls Tryd.prog 16 #[.string s] w fun e w' => e = .returned (.string (ptP s)) ∧ Below w.heap.size w w' := by
  have q := fun W => rput_c (cutS s).size 2 W
  simp only [putP2] at q
  have hz := put2_size (cutS s).size
  have hc := cutS_size s
  have e : ptP s = strOfNums (putL (cutS s).size 2) ++ cutS s := rfl
  by_cases h : s.size ≤ 65535
  · rw [show cutS s = s from if_pos h] at *
    generalize strOfNums (putL s.size 2) = x at *
    have Q := hide q
    have E := hide e
    clear q e
    have hs1 : (s.size : Int) ≤ 65535 := by omega
    have hs2 : (s.size : Int) ≤ 8388608 := by omega
    have hx : (x.size : Int) ≤ 8388608 := by omega
    go_enter Tryd.func16, Tryd.ntmps16
    go_wp2_with fail
    refine (Q.out _).mono ?_
    rintro e w' ⟨rfl, hb⟩
    go_wp2_with fail
    go_ret
    exact ⟨ret_str (by rw [E.out]), hb⟩
  · have hcs : s.extract 0 65535 = cutS s := (if_neg h).symm
    generalize cutS s = c at *
    generalize strOfNums (putL c.size 2) = x at *
    have Q := hide q
    have E := hide e
    clear q e
    have hs1 : (65535 : Int) < s.size := by omega
    have hs2 : (c.size : Int) ≤ 8388608 := by omega
    have hx : (x.size : Int) ≤ 8388608 := by omega
    go_enter Tryd.func16, Tryd.ntmps16
    go_wp2_with fail
    refine (Q.out _).mono ?_
    rintro e w' ⟨rfl, hb⟩
    go_wp2_with fail
    go_ret
    exact ⟨ret_str (by rw [E.out]), hb⟩
end Go.Proofs.YtlfgfjljddjncaaDoor
