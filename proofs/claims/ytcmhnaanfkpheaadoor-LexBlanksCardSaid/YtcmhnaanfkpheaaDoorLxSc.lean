/- LexLies: the walk. -/
import Derived.Test.YtcmhnaanfkpheaaDoorLxSa
import Derived.Test.YtcmhnaanfkpheaaDoorLxQ
namespace Go.Proofs.YtcmhnaanfkpheaaDoor
set_option linter.unusedVariables false
open Go.ChangeShapes Go.WideShapes Go.ChangeAt Go.RowKit

section
variable {w w' : World} {B g : Nat} {k a s n : Int} {t : ByteArray}
theorem TokBox.lt (h : TokBox w g k a s n t) : g < w.heap.size := (Array.getElem?_eq_some_iff.1 h).1
theorem TokBox.kept2 (h : TokBox w g k a s n t) (hb : Below B w w') (hg : g < B) : TokBox w' g k a s n t := (hb.block g hg).trans h
end
theorem toksS_run {l : List UInt8} {xs : List TokA} {p : Nat} (hl : l.length ≤ 2000) (h : tokensS l = (xs, p, 0)) : RunT l 0 xs := by
  unfold tokensS at h
  rw [if_neg (by omega)] at h
  exact run_of _ _ _ _ h (Nat.zero_le _) (by omega)
theorem toksS_err {l : List UInt8} {xs : List TokA} {p e : Nat} (hl : l.length ≤ 2000) (h : tokensS l = (xs, p, e)) (he : e ≠ 0) : xs = [] ∧ p < l.length := by
  unfold tokensS at h
  rw [if_neg (by omega)] at h
  exact err_of _ _ _ _ _ h he (Nat.zero_le _)
set_option maxRecDepth 100000 in
set_option maxHeartbeats 4000000 in
theorem lexlies_w (s : ByteArray) (w : World) (hM : ∃ m, w.cell? ⟨1, 0, none⟩ = some (.int .i64 m)) : Calls Tryd.prog 5 #[.string s] w fun e w' => e = .returned (.bool true) ∧ Below w.heap.size w w' := by
  have HM := hide hM
  have hl := str_len s
  clear hM
  by_cases h600 : 600 < s.size
  · have h600i : (600 : Int) < s.size := by omega
    go_enter Tryd.func5, Tryd.ntmps5
    go_wp2_with fail
    refine (awake_c _ HM.out).mono ?_
    rintro e w1 ⟨rfl, hb⟩
    go_wp2_with fail
    go_ret
    exact ⟨rfl, hb⟩
  · have h600i : ¬ (600 : Int) < s.size := by omega
    have QT := hide (fun W h => tokens_c s W h (by omega))
    have QN := hide (fun (a : Nat) W h (ha : a ≤ s.size) => next_c s a W h ha (by omega))
    obtain ⟨⟨xs, P, E⟩, hR⟩ : ∃ R, tokensS s.data.toList = R := ⟨_, rfl⟩
    rw [hR] at QT
    by_cases hE : E = 0
    · subst hE
      have HR0 := hide (toksS_run (by omega) hR)
      obtain ⟨n, hn⟩ : ∃ n, xs.length = n := ⟨_, rfl⟩
      have HNN := hide hn
      clear hR
      go_enter Tryd.func5, Tryd.ntmps5
      go_wp2_with fail
      refine (QT.out _ HM.out).mono ?_
      rintro e w2 ⟨v1, rfl, hb, hown⟩
      obtain ⟨A1, c1, rfl, hs1⟩ := toks_at hown
      have HM2 := hide (max_kept HM.out hb)
      have hmx := Nat.le_trans hs1.cap hs1.max
      unfold maxLen at hmx
      have HS1 := hide hs1
      have HB0 := hide hb
      clear hown hs1 hb QT HM
      have hz0 : ((0 : Nat) : Int) = 0 := rfl
      simp only [hn, hz0] at HS1 hmx ⊢
      clear hn hz0
      go_wp2_with fail
      go_loopw [6, 7] (fun ev iv wr => ∃ (k a : Nat), ev = .int .i64 a ∧ iv = .int .i64 k ∧ k ≤ n ∧ a ≤ s.size ∧ Hid (RunT s.data.toList a (xs.drop k)) ∧ Hid (Below w2.heap.size w2 wr)) (fun _ iv _ => n - (intOf iv).toNat)
      case atStart => exact ⟨0, 0, rfl, rfl, Nat.zero_le _, Nat.zero_le _, HR0, Below.refl _ _⟩
      case round =>
        clear HR0
        obtain ⟨k, a, rfl, rfl, hk, ha, HR, HB⟩ := hrel
        have HMr := hide (max_kept HM2.out HB.out)
        by_cases hlt : k < n
        · have hlti : (k : Int) < n := by omega
          have hwk : IntKind.i64.wrap ((k : Int) + 1) = (k : Int) + 1 := IntWalk.i64_in _ (by omega)
          obtain ⟨blk, off, x, rfl, _, hx, hc⟩ := (HS1.out.kept HB.out).at (by omega) hlt
          have hrun := HR.out
          rw [drop_at hx] at hrun
          obtain ⟨r1, r2, r3, r4⟩ := hrun
          obtain ⟨t1, t2, t3, t4, t5⟩ := tok_facts (by omega) r1 r2 r3
          obtain ⟨p1, p2, p3, p4, p5⟩ := piece_next t4 t5 r2
          have q1 := QN.out a
          rw [r1] at q1
          have l0 := hc 0 _ rfl
          have l1 := hc 1 _ rfl
          have l2 := hc 2 _ rfl
          have l3 := hc 3 _ rfl
          have l4 := hc 4 _ rfl
          rw [Nat.add_zero] at l0
          rw [← Nat.add_assoc] at l1 l2 l3 l4
          obtain ⟨b, K, S, N, U, E⟩ := x
          simp only at r2 t1 t2 t3 p2 p5 q1 r4 l0 l1 l2 l3 l4
          subst r2
          rw [hl] at t3
          have q2 := fun W h => next_c (strL ((s.data.toList.drop b).take S)) 0 W h (Nat.zero_le _) (by rw [strL_size, p2]; omega)
          rw [strL_list, p5] at q2
          obtain ⟨e2, he2⟩ : ∃ e2, b + S = e2 := ⟨_, rfl⟩
          have hex : s.extract b e2 = strL ((s.data.toList.drop b).take S) := by rw [strL_extract, ← he2, Nat.add_sub_cancel_left]
          obtain ⟨sp, hsp⟩ : ∃ sp, strL ((s.data.toList.drop b).take S) = sp := ⟨_, rfl⟩
          rw [hsp] at hex q2
          rw [he2] at r4
          have Q1 := hide (fun W h => q1 W h ha)
          have Q2 := hide q2
          have HR2 := hide r4
          obtain ⟨d, hd⟩ : ∃ d, s.size - b = d := ⟨_, rfl⟩
          have b1 : ¬ (b : Int) < (a : Int) := by omega
          have b2 : ¬ (S : Int) < 1 := by omega
          have f1 : IntKind.i64.wrap ((s.size : Int) - (b : Int)) = (d : Int) := by rw [IntWalk.i64_in _ (by omega)]; omega
          have f1' : (s.size : Int) - (b : Int) = (d : Int) := by omega
          have f1w : IntKind.i64.wrap (d : Int) = (d : Int) := IntWalk.i64_in _ (by omega)
          have b3 : ¬ (d : Int) < (S : Int) := by omega
          have f2 : IntKind.i64.wrap ((b : Int) + (S : Int)) = (e2 : Int) := by rw [IntWalk.i64_in _ (by omega)]; omega
          have f2' : (b : Int) + (S : Int) = (e2 : Int) := by omega
          have f2w : IntKind.i64.wrap (e2 : Int) = (e2 : Int) := IntWalk.i64_in _ (by omega)
          have f3 : IntKind.i64.wrap (b : Int) = (b : Int) := IntWalk.i64_in _ (by omega)
          have s1 : b ≤ e2 := by omega
          have s2 : e2 ≤ s.size := by omega
          have s3 : (b : Int) ≤ (e2 : Int) := by omega
          have s4 : (e2 : Int) ≤ (s.size : Int) := by omega
          have g1 := tokEq_same K b S N (strL U)
          clear hc hx r1 r3 r4 t1 t2 t3 t4 t5 p1 p2 p3 p4 p5 q1 q2 he2 hsp hd HR
          obtain ⟨o8, ho⟩ : ∃ o : Obj, o = .cells #[.int .i64 K, .int .i64 b, .int .i64 S, .int .i64 N, .string (strL U)] 24 := ⟨_, rfl⟩
          have HX8 := hide (show TokBox (wr.alloc o8) wr.heap.size K b S N (strL U) by rw [ho]; exact heap_alloc_new wr _)
          replace HMr := hide (max_kept HMr.out (Bel.one wr o8))
          replace HB := hide (HB.out.alloc HB.out.size o8)
          go_upto_region 11 with (fail)
          rw [← ho]
          clear ho l0 l1 l2 l3 l4
          generalize wr.alloc o8 = w3 at *
          obtain ⟨⟨c0, c1, c2, c3, c4⟩, _⟩ := HX8.out.all
          go_upto_region 13 with (fail)
          clear c0 c1 c2 c3 c4
          go_wp2_with fail
          refine (Q1.out _ HMr.out).mono ?_
          rintro e w4 ⟨rfl, hb⟩
          replace HMr := hide (max_kept HMr.out hb)
          obtain ⟨o9, ho⟩ : ∃ o : Obj, o = .cells #[.int .i64 K, .int .i64 b, .int .i64 S, .int .i64 N, .string (strL U)] 24 := ⟨_, rfl⟩
          have HX9 := hide (show TokBox (w4.alloc o9) w4.heap.size K b S N (strL U) by rw [ho]; exact heap_alloc_new w4 _)
          replace HX8 := hide ((HX8.out.kept hb).kept (Bel.one w4 o9))
          replace HB := hide (Below.alloc (Bel.then HB.out hb) (Bel.then HB.out hb).size o9)
          replace HMr := hide (max_kept HMr.out (Bel.one w4 o9))
          clear hb Q1
          unfold tokAgg
          go_upto_region 14 with (fail)
          rw [← ho]
          clear ho
          generalize w4.alloc o9 = w5 at *
          obtain ⟨⟨c0, c1, c2, c3, c4⟩, _⟩ := HX8.out.all
          go_wp2_with fail
          refine (Q2.out _ HMr.out).mono ?_
          rintro e w6 ⟨rfl, hb⟩
          clear c0 c1 c2 c3 c4
          obtain ⟨o11, ho⟩ : ∃ o : Obj, o = .cells #[.int .i64 K, .int .i64 0, .int .i64 S, .int .i64 N, .string (strL U)] 24 := ⟨_, rfl⟩
          have HX11 := hide (show TokBox (w6.alloc o11) w6.heap.size K 0 S N (strL U) by rw [ho]; exact heap_alloc_new w6 _)
          have HL8 := hide (HX8.out.kept hb).lt
          have HL9 := hide (HX9.out.kept hb).lt
          replace HX8 := hide ((HX8.out.kept hb).kept (Bel.one w6 o11))
          replace HX9 := hide ((HX9.out.kept hb).kept (Bel.one w6 o11))
          have HLB := hide (Bel.then HB.out hb).size
          replace HB := hide (Below.alloc (Bel.then HB.out hb) (Bel.then HB.out hb).size o11)
          clear hb Q2 HMr
          unfold tokAgg
          go_upto_region 15 with (fail)
          rw [← ho]
          clear ho
          generalize w6.alloc o11 = w7 at *
          obtain ⟨⟨c0, c1, c2, c3, c4⟩, _⟩ := HX8.out.all
          obtain ⟨⟨d0, d1, d2, d3, d4⟩, ⟨y0, y1, y2, y3, y4⟩⟩ := HX11.out.all
          have HX11' : Hid (TokBox (w7.setCell ⟨w6.heap.size, 1, none⟩ (.int .i64 b)) w6.heap.size K b S N (strL U)) := by
            have h := HX11.out
            unfold TokBox at h
            show TokBox _ _ _ _ _ _ _
            unfold TokBox
            simp [World.setCell, Array.getElem?_modify, h]
          have hbs : Below w6.heap.size w7 (w7.setCell ⟨w6.heap.size, 1, none⟩ (.int .i64 b)) := (Below.refl _ _).setCell (p := ⟨w6.heap.size, 1, none⟩) (Nat.le_refl _) (.int .i64 b)
          replace HX8 := hide (HX8.out.kept2 hbs HL8.out)
          replace HX9 := hide (HX9.out.kept2 hbs HL9.out)
          replace HB := hide (HB.out.setCell (p := ⟨w6.heap.size, 1, none⟩) HLB.out (.int .i64 b))
          clear hbs HL8 HL9 HLB HX11
          go_upto_region 16 with (fail)
          generalize w7.setCell ⟨w6.heap.size, 1, none⟩ (.int .i64 b) = w8 at *
          clear c0 c1 c2 c3 c4 d0 d1 d2 d3 d4 y0 y1 y2 y3 y4
          obtain ⟨⟨c0, c1, c2, c3, c4⟩, _⟩ := HX8.out.all
          obtain ⟨⟨d0, d1, d2, d3, d4⟩, _⟩ := HX9.out.all
          obtain ⟨⟨m0, m1, m2, m3, m4⟩, _⟩ := HX11'.out.all
          clear HX8 HX9 HX11'
          go_wp2_with fail
          go_roundw
          case rel => exact ⟨k + 1, e2, rfl, by go_num, by omega, s2, HR2, HB⟩
          case measure => simp [intOf]; omega
        · have hlti : ¬ (k : Int) < n := by omega
          have hnext : nextAt s.data.toList a = ⟨s.size, tokBad 0⟩ := by
            have := HR.out
            rw [List.drop_of_length_le (by rw [HNN.out]; omega)] at this
            rw [← hl]
            exact this
          have q1 := QN.out a
          rw [hnext] at q1
          have Q1 := hide (fun W h => q1 W h ha)
          have g1 := tokEq_same 0 s.size 0 0 { data := #[] }
          clear hnext q1 HR
          go_wp2_with fail
          refine (Q1.out _ HMr.out).mono ?_
          rintro e w4 ⟨rfl, hb⟩
          replace HMr := hide (max_kept HMr.out hb)
          obtain ⟨o9, ho⟩ : ∃ o : Obj, o = .cells #[.int .i64 ((0 : Nat) : Int), .int .i64 s.size, .int .i64 ((0 : Nat) : Int), .int .i64 ((0 : Nat) : Int), .string { data := #[] }] 24 := ⟨_, rfl⟩
          have HX9 := hide (show TokBox (w4.alloc o9) w4.heap.size 0 s.size 0 0 { data := #[] } by rw [ho]; exact heap_alloc_new w4 _)
          replace HB := hide (Below.alloc (Bel.then HB.out hb) (Bel.then HB.out hb).size o9)
          replace HMr := hide (max_kept HMr.out (Bel.one w4 o9))
          clear hb Q1
          unfold tokAgg
          rw [show strL (tokBad 0).str = ({ data := #[] } : ByteArray) from rfl]
          go_upto_region 20 with (fail)
          first | rw [← ho] | (simp only [tokBad]; rw [← ho])
          clear ho
          generalize w4.alloc o9 = w5 at *
          go_wp2_with fail
          refine (awake_c _ HMr.out).mono ?_
          rintro e w6 ⟨rfl, hb⟩
          replace HX9 := hide (HX9.out.kept hb)
          replace HB := hide (Bel.then HB.out hb)
          clear hb HMr
          obtain ⟨⟨d0, d1, d2, d3, d4⟩, _⟩ := HX9.out.all
          go_wp2_with fail
          go_ret
          exact ⟨rfl, Bel.then HB0.out HB.out⟩
    · obtain ⟨rfl, hP⟩ := toksS_err (by omega) hR hE
      have hEi : ((E : Int) == 0) = false := by rw [beq_eq_false_iff_ne]; omega
      have hEi2 : ((E : Int) != 0) = true := by rw [bne, hEi]; rfl
      have p1 : (0 : Int) ≤ (P : Int) := by omega
      have p2 : (P : Int) < (s.size : Int) := by omega
      clear hR
      go_enter Tryd.func5, Tryd.ntmps5
      go_wp2_with fail
      refine (QT.out _ HM.out).mono ?_
      rintro e w2 ⟨v1, rfl, hb, hown⟩
      obtain ⟨A1, c1, rfl, hs1⟩ := toks_at hown
      have HM2 := hide (max_kept HM.out hb)
      have HB0 := hide hb
      clear hown hs1 hb QT HM
      simp only [List.length_nil]
      go_wp2_with fail
      refine (awake_c _ HM2.out).mono ?_
      rintro e w3 ⟨rfl, hb⟩
      go_wp2_with fail
      go_ret
      exact ⟨rfl, Bel.then HB0.out hb⟩
end Go.Proofs.YtcmhnaanfkpheaaDoor
