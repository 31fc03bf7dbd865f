/- LexNames: the walk. -/
import Derived.Test.YtcmhnaanfkpheaaDoorLxYb
namespace Go.Proofs.YtcmhnaanfkpheaaDoor
set_option linter.unusedVariables false
open Go.ChangeShapes Go.WideShapes Go.ChangeAt Go.RowKit

theorem quote_list (s : ByteArray) : (({ data := #[34] } ++ s : ByteArray) ++ ({ data := #[34] } : ByteArray)).data.toList = 34 :: (s.data.toList ++ [34]) := by simp [ByteArray.data_append]
theorem quote_size (s : ByteArray) : (({ data := #[34] } ++ s : ByteArray) ++ ({ data := #[34] } : ByteArray)).size = s.size + 2 := by
  rw [ByteArray.size_append, ByteArray.size_append]
  show 1 + s.size + 1 = _
  omega
set_option maxRecDepth 100000 in
set_option maxHeartbeats 8000000 in
theorem names_w (s : ByteArray) (w : World) (hM : ∃ m, w.cell? ⟨1, 0, none⟩ = some (.int .i64 m)) : Calls Tryd.prog 8 #[.string s] w fun e w' => e = .returned (.bool true) ∧ Below w.heap.size w w' := by
  have hl := str_len s
  have HM := hide hM
  clear hM
  by_cases h100 : 100 < s.size
  · have h100i : (100 : Int) < s.size := by omega
    go_enter Tryd.func8, Tryd.ntmps8
    go_wp2_with fail
    refine (awake_c _ HM.out).mono ?_
    rintro e w1 ⟨rfl, hb⟩
    go_wp2_with fail
    go_ret
    exact ⟨rfl, hb⟩
  · have h100i : ¬ (100 : Int) < s.size := by omega
    have QN := hide (fun W h => next_c s 0 W h (Nat.zero_le _) (by omega))
    have QQ := hide (fun W h => next_c (({ data := #[34] } ++ s : ByteArray) ++ ({ data := #[34] } : ByteArray)) 0 W h (Nat.zero_le _) (by rw [quote_size]; omega))
    have QM := hide (fun W => name_c s W (by omega))
    have QR := hide (fun W => reserved_c s W)
    rw [quote_list] at QQ
    obtain ⟨m, hm⟩ : ∃ m, s.size + 2 = m := ⟨_, rfl⟩
    have f1 : IntKind.i64.wrap ((s.size : Int) + 2) = (m : Int) := by rw [IntWalk.i64_in _ (by omega)]; omega
    cases hr : resB s.data.toList with
    | true =>
      obtain ⟨hf, h20⟩ := res_form hr
      obtain ⟨e1, e2⟩ := next_form hf
      have e3 := next_quoted hf h20
      rw [hr, if_pos rfl] at e2
      rw [e1, e2, hl] at QN
      rw [e3, hl, hm] at QQ
      rw [hr, Bool.not_true, Bool.and_false] at QM
      rw [hr] at QR
      unfold GivesTok at QN QQ
      simp only [strL_str] at QN QQ
      have g1 := tokEq_same 1 0 s.size 0 s
      have g2 := tokEq_same 2 0 (m : Int) 0 s
      clear hr hf h20 e1 e2 e3 hl hm
      go_enter Tryd.func8, Tryd.ntmps8
      go_wp2_with fail
      refine (QN.out _ HM.out).mono ?_
      rintro e w1 ⟨rfl, hb⟩
      have HM1 := hide (max_kept HM.out hb)
      obtain ⟨o1, ho⟩ : ∃ o : Obj, o = .cells #[.int .i64 1, .int .i64 0, .int .i64 s.size, .int .i64 0, .string s] 24 := ⟨_, rfl⟩
      have HX1 := hide (show TokBox (w1.alloc o1) w1.heap.size 1 0 s.size 0 s by rw [ho]; exact heap_alloc_new w1 _)
      have HB1 := hide (Below.alloc hb hb.size o1)
      replace HM1 := hide (max_kept HM1.out (Bel.one w1 o1))
      clear hb
      unfold tokAgg
      go_upto_region 4 with (fail)
      rw [← ho]
      clear ho
      generalize w1.alloc o1 = w2 at *
      go_wp2_with fail
      refine (QQ.out _ HM1.out).mono ?_
      rintro e w3 ⟨rfl, hb⟩
      have HM3 := hide (max_kept HM1.out hb)
      obtain ⟨o2, ho⟩ : ∃ o : Obj, o = .cells #[.int .i64 2, .int .i64 0, .int .i64 m, .int .i64 0, .string s] 24 := ⟨_, rfl⟩
      have HX2 := hide (show TokBox (w3.alloc o2) w3.heap.size 2 0 m 0 s by rw [ho]; exact heap_alloc_new w3 _)
      replace HX1 := hide ((HX1.out.kept hb).kept (Bel.one w3 o2))
      have HB3 := hide (Below.alloc (Bel.then HB1.out hb) (Bel.then HB1.out hb).size o2)
      replace HM3 := hide (max_kept HM3.out (Bel.one w3 o2))
      clear hb HB1 HM1
      unfold tokAgg
      go_upto_region 5 with (fail)
      rw [← ho]
      clear ho
      generalize w3.alloc o2 = w4 at *
      go_wp2_with fail
      refine (QM.out _).mono ?_
      rintro e w5 ⟨rfl, hb⟩
      replace HX1 := hide (HX1.out.kept hb)
      replace HX2 := hide (HX2.out.kept hb)
      replace HM3 := hide (max_kept HM3.out hb)
      replace HB3 := hide (Bel.then HB3.out hb)
      clear hb
      go_wp2_with fail
      refine (QR.out _).mono ?_
      rintro e w6 ⟨rfl, rfl⟩
      obtain ⟨⟨c0, c1, c2, c3, c4⟩, _⟩ := HX1.out.all
      go_upto_region 8 with (fail)
      go_wp2_with fail
      refine (awake_c _ HM3.out).mono ?_
      rintro e w7 ⟨rfl, hb⟩
      have HX3 := hide (HX2.out.kept hb)
      have HB4 := hide (Bel.then HB3.out hb)
      clear hb
      obtain ⟨⟨d0, d1, d2, d3, d4⟩, _⟩ := HX3.out.all
      go_wp2_with fail
      go_ret
      exact ⟨rfl, HB4.out⟩
    | false =>
      rw [hr, Bool.not_false, Bool.and_true] at QM
      rw [hr] at QR
      cases hn : (formB s.data.toList && decide (s.size ≤ 20)) with
      | true =>
        rw [hn] at QM
        rw [Bool.and_eq_true, decide_eq_true_eq] at hn
        obtain ⟨hf, h20⟩ := hn
        obtain ⟨e1, e2⟩ := next_form hf
        have e3 := next_quoted hf (by omega)
        rw [hr, if_neg (by decide), hl, if_neg (by omega)] at e2
        rw [e1, e2] at QN
        rw [e3, hl, hm] at QQ
        unfold GivesTok at QN QQ
        simp only [strL_str] at QN QQ
        have g1 := tokEq_same 2 0 s.size 0 s
        have g2 := tokEq_same 2 0 (m : Int) 0 s
        clear hr hf h20 e1 e2 e3 hl hm
        go_enter Tryd.func8, Tryd.ntmps8
        go_wp2_with fail
        refine (QN.out _ HM.out).mono ?_
        rintro e w1 ⟨rfl, hb⟩
        have HM1 := hide (max_kept HM.out hb)
        obtain ⟨o1, ho⟩ : ∃ o : Obj, o = .cells #[.int .i64 2, .int .i64 0, .int .i64 s.size, .int .i64 0, .string s] 24 := ⟨_, rfl⟩
        have HX1 := hide (show TokBox (w1.alloc o1) w1.heap.size 2 0 s.size 0 s by rw [ho]; exact heap_alloc_new w1 _)
        have HB1 := hide (Below.alloc hb hb.size o1)
        replace HM1 := hide (max_kept HM1.out (Bel.one w1 o1))
        clear hb
        unfold tokAgg
        go_upto_region 4 with (fail)
        rw [← ho]
        clear ho
        generalize w1.alloc o1 = w2 at *
        go_wp2_with fail
        refine (QQ.out _ HM1.out).mono ?_
        rintro e w3 ⟨rfl, hb⟩
        have HM3 := hide (max_kept HM1.out hb)
        obtain ⟨o2, ho⟩ : ∃ o : Obj, o = .cells #[.int .i64 2, .int .i64 0, .int .i64 m, .int .i64 0, .string s] 24 := ⟨_, rfl⟩
        have HX2 := hide (show TokBox (w3.alloc o2) w3.heap.size 2 0 m 0 s by rw [ho]; exact heap_alloc_new w3 _)
        replace HX1 := hide ((HX1.out.kept hb).kept (Bel.one w3 o2))
        have HB3 := hide (Below.alloc (Bel.then HB1.out hb) (Bel.then HB1.out hb).size o2)
        replace HM3 := hide (max_kept HM3.out (Bel.one w3 o2))
        clear hb HB1 HM1
        unfold tokAgg
        go_upto_region 5 with (fail)
        rw [← ho]
        clear ho
        generalize w3.alloc o2 = w4 at *
        go_wp2_with fail
        refine (QM.out _).mono ?_
        rintro e w5 ⟨rfl, hb⟩
        replace HX1 := hide (HX1.out.kept hb)
        replace HX2 := hide (HX2.out.kept hb)
        replace HM3 := hide (max_kept HM3.out hb)
        replace HB3 := hide (Bel.then HB3.out hb)
        clear hb
        go_wp2_with fail
        refine (QR.out _).mono ?_
        rintro e w6 ⟨rfl, rfl⟩
        obtain ⟨⟨c0, c1, c2, c3, c4⟩, _⟩ := HX1.out.all
        go_upto_region 8 with (fail)
        go_wp2_with fail
        refine (awake_c _ HM3.out).mono ?_
        rintro e w7 ⟨rfl, hb⟩
        have HX3 := hide (HX2.out.kept hb)
        have HB4 := hide (Bel.then HB3.out hb)
        clear hb
        obtain ⟨⟨d0, d1, d2, d3, d4⟩, _⟩ := HX3.out.all
        go_wp2_with fail
        go_ret
        exact ⟨rfl, HB4.out⟩
      | false =>
        rw [hn] at QM
        clear hr hn hl
        obtain ⟨x1, hx1⟩ : ∃ x, nextAt s.data.toList 0 = x := ⟨_, rfl⟩
        obtain ⟨x2, hx2⟩ : ∃ x, nextAt (34 :: (s.data.toList ++ [34])) 0 = x := ⟨_, rfl⟩
        rw [hx1] at QN
        rw [hx2] at QQ
        clear hx1 hx2
        obtain ⟨A1, K1, S1, N1, U1, E1⟩ := x1
        obtain ⟨A2, K2, S2, N2, U2, E2⟩ := x2
        simp only at QN QQ
        go_enter Tryd.func8, Tryd.ntmps8
        go_wp2_with fail
        refine (QN.out _ HM.out).mono ?_
        rintro e w1 ⟨rfl, hb⟩
        have HM1 := hide (max_kept HM.out hb)
        obtain ⟨o1, ho⟩ : ∃ o : Obj, o = .cells #[.int .i64 K1, .int .i64 A1, .int .i64 S1, .int .i64 N1, .string (strL U1)] 24 := ⟨_, rfl⟩
        have HX1 := hide (show TokBox (w1.alloc o1) w1.heap.size K1 A1 S1 N1 (strL U1) by rw [ho]; exact heap_alloc_new w1 _)
        have HB1 := hide (Below.alloc hb hb.size o1)
        replace HM1 := hide (max_kept HM1.out (Bel.one w1 o1))
        clear hb
        unfold tokAgg
        go_upto_region 4 with (fail)
        rw [← ho]
        clear ho
        generalize w1.alloc o1 = w2 at *
        go_wp2_with fail
        refine (QQ.out _ HM1.out).mono ?_
        rintro e w3 ⟨rfl, hb⟩
        have HM3 := hide (max_kept HM1.out hb)
        obtain ⟨o2, ho⟩ : ∃ o : Obj, o = .cells #[.int .i64 K2, .int .i64 A2, .int .i64 S2, .int .i64 N2, .string (strL U2)] 24 := ⟨_, rfl⟩
        have HX2 := hide (show TokBox (w3.alloc o2) w3.heap.size K2 A2 S2 N2 (strL U2) by rw [ho]; exact heap_alloc_new w3 _)
        replace HX1 := hide ((HX1.out.kept hb).kept (Bel.one w3 o2))
        have HB3 := hide (Below.alloc (Bel.then HB1.out hb) (Bel.then HB1.out hb).size o2)
        replace HM3 := hide (max_kept HM3.out (Bel.one w3 o2))
        clear hb HB1 HM1
        unfold tokAgg
        go_upto_region 5 with (fail)
        rw [← ho]
        clear ho
        generalize w3.alloc o2 = w4 at *
        go_wp2_with fail
        refine (QM.out _).mono ?_
        rintro e w5 ⟨rfl, hb⟩
        replace HX1 := hide (HX1.out.kept hb)
        replace HX2 := hide (HX2.out.kept hb)
        replace HM3 := hide (max_kept HM3.out hb)
        replace HB3 := hide (Bel.then HB3.out hb)
        clear hb
        go_wp2_with fail
        refine (QR.out _).mono ?_
        rintro e w6 ⟨rfl, rfl⟩
        obtain ⟨⟨c0, c1, c2, c3, c4⟩, _⟩ := HX1.out.all
        go_upto_region 8 with (fail)
        go_wp2_with fail
        refine (awake_c _ HM3.out).mono ?_
        rintro e w7 ⟨rfl, hb⟩
        have HX3 := hide (HX2.out.kept hb)
        have HB4 := hide (Bel.then HB3.out hb)
        clear hb
        obtain ⟨⟨d0, d1, d2, d3, d4⟩, _⟩ := HX3.out.all
        go_wp2_with fail
        go_ret
        exact ⟨rfl, HB4.out⟩
end Go.Proofs.YtcmhnaanfkpheaaDoor
