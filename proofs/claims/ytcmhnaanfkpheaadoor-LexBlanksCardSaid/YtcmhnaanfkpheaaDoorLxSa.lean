/- LexNext and LexTokens: the walks. -/
import Derived.Test.YtcmhnaanfkpheaaDoorLxRe
namespace Go.Proofs.YtcmhnaanfkpheaaDoor
set_option linter.unusedVariables false
open Go.ChangeShapes Go.WideShapes Go.ChangeAt Go.RowKit

set_option maxRecDepth 100000 in
set_option maxHeartbeats 4000000 in
theorem lexnext_w (s : ByteArray) (at_ : Int) (w : World) (hM : ∃ m, w.cell? ⟨1, 0, none⟩ = some (.int .i64 m)) : Calls Tryd.prog 3 #[.string s, .int .i64 at_] w fun e w' => e = .returned (.bool true) ∧ Below w.heap.size w w' := by
  have HM := hide hM
  clear hM
  by_cases h600 : 600 < s.size
  · have h600i : (600 : Int) < s.size := by omega
    go_enter Tryd.func3, Tryd.ntmps3
    go_wp2_with fail
    refine (awake_c _ HM.out).mono ?_
    rintro e w1 ⟨rfl, hb⟩
    go_wp2_with fail
    go_ret
    exact ⟨rfl, hb⟩
  · have h600i : ¬ (600 : Int) < s.size := by omega
    have hQ : ∃ (T : Tok) (q : Nat), (∀ W, (∃ m, W.cell? ⟨1, 0, none⟩ = some (.int .i64 m)) → Calls Tryd.prog 10 #[.string s, .int .i64 at_] W (GivesTok W T q)) ∧ (∀ W, Calls Tryd.prog 11 #[.string s, .int .i64 at_] W (GivesTok W T q)) := by
      by_cases ho : at_ < 0 ∨ (s.size : Int) < at_
      · exact ⟨tokBad 1, 0, fun W _ => next_out s at_ W ho, fun W => rnext_out s at_ W ho⟩
      · obtain ⟨a, rfl⟩ : ∃ a : Nat, at_ = (a : Int) := ⟨at_.toNat, by omega⟩
        exact ⟨_, _, fun W h => next_c s a W h (by omega) (by omega), fun W => rnext_c s a W (by omega) (by omega)⟩
    obtain ⟨⟨K, S, N, U, E⟩, q, hQN, hQR⟩ := hQ
    have QN := hide hQN
    have QR := hide hQR
    have g1 := tokEq_same K q S N (strL U)
    clear hQN hQR
    go_enter Tryd.func3, Tryd.ntmps3
    go_wp2_with fail
    refine (QN.out _ HM.out).mono ?_
    rintro e w1 ⟨rfl, hb⟩
    have HM1 := hide (max_kept HM.out hb)
    obtain ⟨o1, ho⟩ : ∃ o : Obj, o = .cells #[.int .i64 K, .int .i64 q, .int .i64 S, .int .i64 N, .string (strL U)] 24 := ⟨_, rfl⟩
    have HX1 := hide (show TokBox (w1.alloc o1) w1.heap.size K q S N (strL U) by rw [ho]; exact heap_alloc_new w1 _)
    have HB1 := hide (Below.alloc hb hb.size o1)
    replace HM1 := hide (max_kept HM1.out (Bel.one w1 o1))
    clear hb
    unfold tokAgg
    go_upto_region 4 with (fail)
    rw [← ho]
    clear ho
    generalize w1.alloc o1 = w2 at *
    go_wp2_with fail
    refine (QR.out _).mono ?_
    rintro e w3 ⟨rfl, hb⟩
    have HM3 := hide (max_kept HM1.out hb)
    obtain ⟨o2, ho⟩ : ∃ o : Obj, o = .cells #[.int .i64 K, .int .i64 q, .int .i64 S, .int .i64 N, .string (strL U)] 24 := ⟨_, rfl⟩
    have HX2 := hide (show TokBox (w3.alloc o2) w3.heap.size K q S N (strL U) by rw [ho]; exact heap_alloc_new w3 _)
    replace HX1 := hide ((HX1.out.kept hb).kept (Bel.one w3 o2))
    have HB3 := hide (Below.alloc (Bel.then HB1.out hb) (Bel.then HB1.out hb).size o2)
    replace HM3 := hide (max_kept HM3.out (Bel.one w3 o2))
    clear hb HB1 HM1
    unfold tokAgg
    go_upto_region 5 with (fail)
    rw [← ho]
    clear ho
    generalize w3.alloc o2 = w4 at *
    go_wp2_with fail
    refine (awake_c _ HM3.out).mono ?_
    rintro e w7 ⟨rfl, hb⟩
    replace HX1 := hide (HX1.out.kept hb)
    replace HX2 := hide (HX2.out.kept hb)
    have HB4 := hide (Bel.then HB3.out hb)
    clear hb
    obtain ⟨⟨c0, c1, c2, c3, c4⟩, _⟩ := HX1.out.all
    obtain ⟨⟨d0, d1, d2, d3, d4⟩, _⟩ := HX2.out.all
    go_wp2_with fail
    go_ret
    exact ⟨rfl, HB4.out⟩
set_option maxRecDepth 100000 in
set_option maxHeartbeats 4000000 in
theorem lextokens_w (s : ByteArray) (w : World) (hM : ∃ m, w.cell? ⟨1, 0, none⟩ = some (.int .i64 m)) : Calls Tryd.prog 4 #[.string s] w fun e w' => e = .returned (.bool true) ∧ Below w.heap.size w w' := by
  have HM := hide hM
  clear hM
  by_cases h600 : 2100 < s.size
  · have h600i : (2100 : Int) < s.size := by omega
    go_enter Tryd.func4, Tryd.ntmps4
    go_wp2_with fail
    refine (awake_c _ HM.out).mono ?_
    rintro e w1 ⟨rfl, hb⟩
    go_wp2_with fail
    go_ret
    exact ⟨rfl, hb⟩
  · have h600i : ¬ (2100 : Int) < s.size := by omega
    have QT := hide (fun W h => tokens_c s W h (by omega))
    have QU := hide (fun W => rtokens_c s W (by omega))
    have Q1 := hide (fun W => reserved_c s W)
    have Q2 := hide (fun W => rreserved_c s W (by omega))
    have Q3 := hide (fun W => name_c s W (by omega))
    have Q4 := hide (fun W => rname_c s W (by omega))
    generalize tokensS s.data.toList = R at *
    generalize resB s.data.toList = r1 at *
    generalize (formB s.data.toList && decide (s.size ≤ 20) && !r1) = r2 at *
    obtain ⟨xs, P, E⟩ := R
    obtain ⟨n, hn⟩ : ∃ n, xs.length = n := ⟨_, rfl⟩
    go_enter Tryd.func4, Tryd.ntmps4
    go_wp2_with fail
    refine (QT.out _ HM.out).mono ?_
    rintro e w1 ⟨v1, rfl, hb, hown⟩
    obtain ⟨A1, c1, rfl, hs1⟩ := toks_at hown
    have HM1 := hide (max_kept HM.out hb)
    have HS1 := hide hs1
    have HB1 := hide hb
    clear hown hs1 hb HM QT
    go_wp2_with fail
    refine (QU.out _).mono ?_
    rintro e w2 ⟨v2, rfl, hb, hown⟩
    obtain ⟨A2, c2, rfl, hs2⟩ := toks_at hown
    replace HM1 := hide (max_kept HM1.out hb)
    replace HS1 := hide (HS1.out.kept hb)
    have HS2 := hide hs2
    replace HB1 := hide (Bel.then HB1.out hb)
    clear hown hs2 hb QU
    simp only [hn] at HS1 HS2 ⊢
    go_wp2_with fail
    refine (awake_c _ HM1.out).mono ?_
    rintro e w3 ⟨rfl, hb⟩
    replace HS1 := hide (HS1.out.kept hb)
    replace HS2 := hide (HS2.out.kept hb)
    replace HB1 := hide (Bel.then HB1.out hb)
    clear hb HM1
    go_wp2_with fail
    refine (rsame_c A1 A2 c1 c2 n xs _ HS1.out HS2.out).mono ?_
    rintro e w4 ⟨rfl, hb⟩
    replace HB1 := hide (Bel.then HB1.out hb)
    clear hb HS1 HS2
    go_wp2_with fail
    refine (Q1.out _).mono ?_
    rintro e w5 ⟨rfl, rfl⟩
    go_wp2_with fail
    refine (Q2.out _).mono ?_
    rintro e w6 ⟨rfl, rfl⟩
    have hr1 : (r1 == r1) = true := beq_self_eq_true _
    have hr2 : (r2 == r2) = true := beq_self_eq_true _
    go_wp2_with fail
    refine (Q3.out _).mono ?_
    rintro e w7 ⟨rfl, hb⟩
    replace HB1 := hide (Bel.then HB1.out hb)
    clear hb
    go_wp2_with fail
    refine (Q4.out _).mono ?_
    rintro e w8 ⟨rfl, rfl⟩
    go_wp2_with fail
    go_ret
    exact ⟨rfl, HB1.out⟩
end Go.Proofs.YtcmhnaanfkpheaaDoor
