/- The contracts of lex.Next and lex.Name. -/
import Derived.Test.YtcmhnaanfkpheaaDoorLxV
namespace Go.Proofs.YtcmhnaanfkpheaaDoor
set_option linter.unusedVariables false
open Go.ChangeShapes Go.WideShapes Go.ChangeAt Go.RowKit

/-- A token that is refused is empty, but for its error. -/
theorem tok_bad (l : List UInt8) (h : (tokL l).err ≠ 0) : tokL l = tokBad (tokL l).err := by
  match l, h with
  | [], _ => rfl
  | c :: l, h =>
    rw [tokL] at h ⊢
    by_cases h1 : (lowB c || upB c) = true
    · rw [if_pos h1] at h ⊢
      unfold tokWord at h ⊢
      simp only at h ⊢
      split at h
      · exact absurd rfl h
      · rw [if_neg (by assumption)]
        split at h
        · rw [if_pos (by assumption)]; rfl
        · exact absurd rfl h
    rw [if_neg h1] at h ⊢
    by_cases h2 : digB c = true
    · rw [if_pos h2] at h ⊢
      unfold tokNum at h ⊢
      split at h
      · rw [if_pos (by assumption)]; rfl
      · exact absurd rfl h
    rw [if_neg h2] at h ⊢
    by_cases h3 : (c == 34) = true
    · rw [if_pos h3] at h ⊢
      unfold tokName at h ⊢
      simp only at h ⊢
      split at h
      · rw [if_pos (by assumption)]; rfl
      rw [if_neg (by assumption)]
      split at h
      · rw [if_pos (by assumption)]; rfl
      rw [if_neg (by assumption)]
      split at h
      · rw [if_pos (by assumption)]; rfl
      · exact absurd rfl h
    rw [if_neg h3] at h ⊢
    by_cases h4 : (c == 39) = true
    · rw [if_pos h4] at h ⊢
      unfold tokText at h ⊢
      split at h
      · rfl
      split at h
      · rw [if_pos (by assumption)]; rfl
      rw [if_neg (by assumption)]
      split at h
      · rw [if_pos (by assumption)]; rfl
      · exact absurd rfl h
    rw [if_neg h4] at h ⊢
    unfold tokSign at h ⊢
    split at h
    · rw [if_pos (by assumption)]; rfl
    · exact absurd rfl h
theorem err_le (l : List UInt8) : (tokL l).err ≤ 4 := by
  match l with
  | [] => decide
  | c :: l =>
    rw [tokL]
    unfold tokWord tokNum tokName tokText tokSign tokBad
    simp only
    (repeat' split) <;> simp
set_option maxRecDepth 100000 in
set_option maxHeartbeats 4000000 in
theorem next_out (s : ByteArray) (a : Int) (w : World) (ha : a < 0 ∨ (s.size : Int) < a) : Calls Tryd.prog 10 #[.string s, .int .i64 a] w (GivesTok w (tokBad 1) 0) := by
  have HX := hide (tb_new w)
  have HB := hide (Bel.one w tok0)
  obtain ⟨⟨c0, c1, c2, c3, c4⟩, ⟨y0, y1, y2, y3, y4⟩⟩ := HX.out.all
  have HS := hide (HX.out.set5 0 0 0 0 { data := #[] })
  have HBS := hide (below_set5 HB.out (Nat.le_refl _) (.int .i64 0) (.int .i64 0) (.int .i64 0) (.int .i64 0) (.string { data := #[] }))
  by_cases h : a < 0
  · go_enter Tryd.func10, Tryd.ntmps10
    go_upto_region 1 with (fail)
    generalize w.alloc (.cells #[.int .i64 0, .int .i64 0, .int .i64 0, .int .i64 0, .string { data := #[] }] 24) = w1 at *
    go_wp2_with fail
    exact end_tok Tryd.results10 rfl rfl HS.out rfl ⟨rfl, HBS.out⟩
  · have h2 : (s.size : Int) < a := by omega
    go_enter Tryd.func10, Tryd.ntmps10
    go_upto_region 1 with (fail)
    generalize w.alloc (.cells #[.int .i64 0, .int .i64 0, .int .i64 0, .int .i64 0, .string { data := #[] }] 24) = w1 at *
    go_wp2_with fail
    exact end_tok Tryd.results10 rfl rfl HS.out rfl ⟨rfl, HBS.out⟩
set_option maxRecDepth 100000 in
set_option maxHeartbeats 4000000 in
theorem next_c (s : ByteArray) (a : Nat) (w : World) (hM : ∃ m, w.cell? ⟨1, 0, none⟩ = some (.int .i64 m)) (ha : a ≤ s.size) (hm : s.size ≤ 1048576) : Calls Tryd.prog 10 #[.string s, .int .i64 a] w (GivesTok w (nextAt s.data.toList a).t (nextAt s.data.toList a).at_) := by
  have hl := str_len s
  have h0 : ¬ (a : Int) < 0 := by omega
  have h1 : ¬ (s.size : Int) < (a : Int) := by omega
  have QS := hide (fun W => skip_c s a W ha hm)
  have hk := skip_le false (s.data.toList.drop a)
  rw [List.length_drop, hl] at hk
  unfold nextAt
  simp only
  rw [hl]
  obtain ⟨k, hke⟩ : ∃ k, a + skipS false (s.data.toList.drop a) = k := ⟨_, rfl⟩
  rw [hke] at QS ⊢
  have hks : k ≤ s.size := by omega
  have HX := hide (tb_new w)
  have HB := hide (Bel.one w tok0)
  have HM := hide hM
  clear hke hk hM ha
  by_cases he : k = s.size
  · rw [if_pos he]
    have hei : ((k : Int) == (s.size : Int)) = true := by rw [beq_iff_eq]; omega
    obtain ⟨⟨c0, c1, c2, c3, c4⟩, ⟨y0, y1, y2, y3, y4⟩⟩ := HX.out.all
    have HS := hide (HX.out.set5 0 k 0 0 { data := #[] })
    have HBS := hide (below_set5 HB.out (Nat.le_refl _) (.int .i64 0) (.int .i64 k) (.int .i64 0) (.int .i64 0) (.string { data := #[] }))
    clear he HX HB
    go_enter Tryd.func10, Tryd.ntmps10
    go_upto_region 1 with (fail)
    generalize w.alloc (.cells #[.int .i64 0, .int .i64 0, .int .i64 0, .int .i64 0, .string { data := #[] }] 24) = w1 at *
    go_wp2_with fail
    refine (QS.out _).mono ?_
    rintro e w2 ⟨rfl, rfl⟩
    go_wp2_with fail
    exact end_tok Tryd.results10 rfl rfl HS.out rfl ⟨rfl, HBS.out⟩
  · rw [if_neg he]
    have hei : ((k : Int) == (s.size : Int)) = false := by rw [beq_eq_false_iff_ne]; omega
    have QR := hide (fun w h => read_c s k w h (by omega) hm)
    have hbad := tok_bad (s.data.toList.drop k)
    have hle := err_le (s.data.toList.drop k)
    obtain ⟨T, hT⟩ : ∃ T, tokL (s.data.toList.drop k) = T := ⟨_, rfl⟩
    rw [hT] at QR hbad hle ⊢
    simp only
    clear hT he
    go_enter Tryd.func10, Tryd.ntmps10
    go_upto_region 1 with (fail)
    generalize w.alloc (.cells #[.int .i64 0, .int .i64 0, .int .i64 0, .int .i64 0, .string { data := #[] }] 24) = w1 at *
    go_wp2_with fail
    refine (QS.out _).mono ?_
    rintro e w2 ⟨rfl, rfl⟩
    go_wp2_with fail
    have HM2 := hide (max_kept HM.out HB.out)
    refine (QR.out _ HM2.out).mono ?_
    rintro e w3 ⟨rfl, hb⟩
    replace HX := hide (HX.out.kept hb)
    replace HB := hide (Bel.then HB.out hb)
    obtain ⟨K, S, N, U, E⟩ := T
    simp only at hbad hle ⊢
    obtain ⟨o6, ho6⟩ : ∃ o6 : Obj, o6 = .cells #[.int .i64 K, .int .i64 0, .int .i64 S, .int .i64 N, .string (strL U)] 24 := ⟨_, rfl⟩
    have HX6 : Hid (TokBox (w3.alloc o6) w3.heap.size K 0 S N (strL U)) := by rw [ho6]; exact heap_alloc_new w3 _
    have HB6 := hide (Bel.one w3 o6)
    clear hb
    unfold tokAgg
    go_upto_region 7 with (fail)
    rw [← ho6]
    clear ho6
    generalize w3.alloc o6 = w4 at *
    obtain ⟨⟨p0, p1, p2, p3, p4⟩, ⟨q0, q1, q2, q3, q4⟩⟩ := HX6.out.all
    by_cases hE : E = 0
    · subst hE
      clear hbad hle
      have HX6' : Hid (TokBox (w4.setCell ⟨w3.heap.size, 1, none⟩ (.int .i64 k)) w3.heap.size K k S N (strL U)) := by
        have h := HX6.out
        unfold TokBox at h
        show TokBox _ _ _ _ _ _ _
        unfold TokBox
        simp [World.setCell, Array.getElem?_modify, h]
      have HB6' := hide (HB6.out.setCell (p := ⟨w3.heap.size, 1, none⟩) (Nat.le_refl _) (.int .i64 k))
      replace HX := hide (HX.out.kept HB6'.out)
      replace HB := hide (Bel.then HB.out HB6'.out)
      clear HX6 HB6 HB6'
      go_upto_region 10 with (fail)
      generalize w4.setCell ⟨w3.heap.size, 1, none⟩ (.int .i64 k) = w5 at *
      clear p0 p1 p2 p3 p4 q0 q1 q2 q3 q4
      obtain ⟨⟨p0, p1, p2, p3, p4⟩, ⟨q0, q1, q2, q3, q4⟩⟩ := HX6'.out.all
      obtain ⟨⟨c0, c1, c2, c3, c4⟩, ⟨y0, y1, y2, y3, y4⟩⟩ := HX.out.all
      have HS := hide (HX.out.set5 K k S N (strL U))
      have HBS := hide (below_set5 HB.out (Nat.le_refl _) (.int .i64 K) (.int .i64 k) (.int .i64 S) (.int .i64 N) (.string (strL U)))
      clear HX HB HX6'
      go_wp2_with fail
      exact end_tok Tryd.results10 rfl rfl HS.out rfl ⟨rfl, HBS.out⟩
    · have hEi : ((E : Int) == 0) = false := by rw [beq_eq_false_iff_ne]; omega
      have hEi2 : ((E : Int) != 0) = true := by rw [bne, hEi]; rfl
      have hb := hbad hE
      unfold tokBad at hb
      injection hb with b1 b2 b3 b4 b5
      subst b1 b2 b3 b4
      clear b5 hbad hle p0 p1 p2 p3 p4 q0 q1 q2 q3 q4 HX6
      replace HX := hide (HX.out.kept HB6.out)
      replace HB := hide (Bel.then HB.out HB6.out)
      obtain ⟨⟨c0, c1, c2, c3, c4⟩, ⟨y0, y1, y2, y3, y4⟩⟩ := HX.out.all
      have HS := hide (HX.out.set5 0 k 0 0 { data := #[] })
      have HBS := hide (below_set5 HB.out (Nat.le_refl _) (.int .i64 0) (.int .i64 k) (.int .i64 0) (.int .i64 0) (.string { data := #[] }))
      clear HX HB HB6
      go_wp2_with fail
      exact end_tok Tryd.results10 rfl rfl HS.out rfl ⟨rfl, HBS.out⟩
set_option maxRecDepth 100000 in
set_option maxHeartbeats 4000000 in
theorem name_c (s : ByteArray) (w : World) (hm : s.size ≤ 1048576) : Calls Tryd.prog 17 #[.string s] w fun e w' => e = .returned (.bool (formB s.data.toList && decide (s.size ≤ 20) && !resB s.data.toList)) ∧ Below w.heap.size w w' := by
  have QF := hide (fun w => form_c s w hm)
  have QR := hide (fun w => reserved_c s w)
  cases hf : formB s.data.toList with
  | false =>
    rw [hf] at QF
    go_enter Tryd.func17, Tryd.ntmps17
    go_wp2_with fail
    refine (QF.out _).mono ?_
    rintro e w2 ⟨rfl, hb⟩
    go_wp2_with fail
    go_ret
    exact ⟨rfl, hb⟩
  | true =>
    rw [hf] at QF
    by_cases h20 : s.size ≤ 20
    · have h20i : (s.size : Int) ≤ 20 := by omega
      rw [decide_eq_true h20]
      go_enter Tryd.func17, Tryd.ntmps17
      go_wp2_with fail
      refine (QF.out _).mono ?_
      rintro e w2 ⟨rfl, hb⟩
      go_wp2_with fail
      refine (QR.out _).mono ?_
      rintro e w3 ⟨rfl, rfl⟩
      cases hr : resB s.data.toList with
      | true =>
        go_wp2_with fail
        go_ret
        exact ⟨by rw [hr]; rfl, hb⟩
      | false =>
        go_wp2_with fail
        go_ret
        exact ⟨by rw [hr]; rfl, hb⟩
    · have h20i : ¬ (s.size : Int) ≤ 20 := by omega
      rw [decide_eq_false h20]
      go_enter Tryd.func17, Tryd.ntmps17
      go_wp2_with fail
      refine (QF.out _).mono ?_
      rintro e w2 ⟨rfl, hb⟩
      go_wp2_with fail
      go_ret
      exact ⟨rfl, hb⟩
end Go.Proofs.YtcmhnaanfkpheaaDoor
