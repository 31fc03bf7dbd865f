/- The contracts of the reference's Next, Tokens, Name and Same. -/
import Derived.Test.YtcmhnaanfkpheaaDoorLxRb
import Derived.Test.YtcmhnaanfkpheaaDoorLxRc
import Derived.Test.YtcmhnaanfkpheaaDoorLxRd
import Derived.OwnWalk
namespace Go.Proofs.YtcmhnaanfkpheaaDoor
set_option linter.unusedVariables false
open Go.ChangeShapes Go.WideShapes Go.ChangeAt Go.RowKit

set_option maxRecDepth 100000 in
set_option maxHeartbeats 4000000 in
theorem rnext_out (s : ByteArray) (a : Int) (w : World) (ha : a < 0 ∨ (s.size : Int) < a) : Calls Tryd.prog 11 #[.string s, .int .i64 a] w (GivesTok w (tokBad 1) 0) := by
  have HX := hide (tb_new w)
  have HB := hide (Bel.one w tok0)
  obtain ⟨⟨c0, c1, c2, c3, c4⟩, ⟨y0, y1, y2, y3, y4⟩⟩ := HX.out.all
  have HS := hide (HX.out.set5 0 0 0 0 { data := #[] })
  have HBS := hide (below_set5 HB.out (Nat.le_refl _) (.int .i64 0) (.int .i64 0) (.int .i64 0) (.int .i64 0) (.string { data := #[] }))
  by_cases h : a < 0
  · go_enter Tryd.func11, Tryd.ntmps11
    go_upto_region 1 with (fail)
    generalize w.alloc (.cells #[.int .i64 0, .int .i64 0, .int .i64 0, .int .i64 0, .string { data := #[] }] 24) = w1 at *
    go_wp2_with fail
    exact end_tok Tryd.results11 rfl rfl HS.out rfl ⟨rfl, HBS.out⟩
  · have h2 : (s.size : Int) < a := by omega
    go_enter Tryd.func11, Tryd.ntmps11
    go_upto_region 1 with (fail)
    generalize w.alloc (.cells #[.int .i64 0, .int .i64 0, .int .i64 0, .int .i64 0, .string { data := #[] }] 24) = w1 at *
    go_wp2_with fail
    exact end_tok Tryd.results11 rfl rfl HS.out rfl ⟨rfl, HBS.out⟩
set_option maxRecDepth 100000 in
set_option maxHeartbeats 8000000 in
theorem rnext_c (s : ByteArray) (a : Nat) (w : World) (ha : a ≤ s.size) (hm : s.size ≤ 1048576) : Calls Tryd.prog 11 #[.string s, .int .i64 a] w (GivesTok w (nextAt s.data.toList a).t (nextAt s.data.toList a).at_) := by
  have hl := str_len s
  have h0 : ¬ (a : Int) < 0 := by omega
  have h1 : ¬ (s.size : Int) < (a : Int) := by omega
  have QS := hide (fun W => rskip_c s a W ha hm)
  have hk := skip_le false (s.data.toList.drop a)
  rw [List.length_drop, hl] at hk
  unfold nextAt
  simp only
  rw [hl]
  obtain ⟨k, hke⟩ : ∃ k, a + skipS false (s.data.toList.drop a) = k := ⟨_, rfl⟩
  rw [hke] at QS ⊢
  have hks : k ≤ s.size := by omega
  have HX := hide (tb_new w)
  have HB := hide (Bel.one w tok0)
  clear hke hk ha
  by_cases he : k = s.size
  · rw [if_pos he]
    have hei : ((k : Int) == (s.size : Int)) = true := by rw [beq_iff_eq]; omega
    obtain ⟨⟨c0, c1, c2, c3, c4⟩, ⟨y0, y1, y2, y3, y4⟩⟩ := HX.out.all
    have HS := hide (HX.out.set5 0 k 0 0 { data := #[] })
    have HBS := hide (below_set5 HB.out (Nat.le_refl _) (.int .i64 0) (.int .i64 k) (.int .i64 0) (.int .i64 0) (.string { data := #[] }))
    clear he HX HB
    go_enter Tryd.func11, Tryd.ntmps11
    go_upto_region 1 with (fail)
    generalize w.alloc (.cells #[.int .i64 0, .int .i64 0, .int .i64 0, .int .i64 0, .string { data := #[] }] 24) = w1 at *
    go_wp2_with fail
    refine (QS.out _).mono ?_
    rintro e w2 ⟨rfl, rfl⟩
    go_wp2_with fail
    exact end_tok Tryd.results11 rfl rfl HS.out rfl ⟨rfl, HBS.out⟩
  · rw [if_neg he]
    have hei : ((k : Int) == (s.size : Int)) = false := by rw [beq_eq_false_iff_ne]; omega
    have hlt : k < s.size := by omega
    have hki : (k : Int) < s.size := by omega
    have hd := drop_str hlt
    simp only
    rw [hd]
    generalize hc : s[k] = c at *
    have hcl := c.toNat_lt
    have Q1 := hide (fun W => rletter_c c.toNat W)
    have Q2 := hide (fun W => rupper_c c.toNat W)
    have Q3 := hide (fun W => rdigit_c c.toNat W)
    rw [low_byte] at Q1
    rw [up_byte] at Q2
    rw [dig_byte] at Q3
    obtain ⟨T, hTT⟩ : ∃ T, tokL (c :: s.data.toList.drop (k + 1)) = T := ⟨_, rfl⟩
    rw [hTT]
    have hT := hide hTT
    clear hTT he
    cases h1 : lowB c with
    | true =>
      rw [h1] at Q1
      have hT2 : tokWord (c :: s.data.toList.drop (k + 1)) = T := by rw [← hT.out]; rw [tokL, if_pos (show (lowB c || upB c) = true by rw [h1]; rfl)]
      have Q := hide (fun w => rword_c s k w hks hm)
      rw [hd, hT2] at Q
      clear hT hT2 hd
      go_enter Tryd.func11, Tryd.ntmps11
      go_upto_region 1 with (fail)
      generalize w.alloc (.cells #[.int .i64 0, .int .i64 0, .int .i64 0, .int .i64 0, .string { data := #[] }] 24) = w1 at *
      go_wp2_with fail
      refine (QS.out _).mono ?_
      rintro e w2 ⟨rfl, rfl⟩
      go_wp2_with fail
      refine (Q1.out _).mono ?_
      rintro e w2 ⟨rfl, rfl⟩
      go_wp2_with fail
      refine (Q.out _).mono ?_
      rintro e w3 ⟨rfl, hb⟩
      replace HX := hide (HX.out.kept hb)
      replace HB := hide (Bel.then HB.out hb)
      obtain ⟨⟨c0, c1, c2, c3, c4⟩, ⟨y0, y1, y2, y3, y4⟩⟩ := HX.out.all
      have HS := hide (HX.out.set5 T.kind k T.size T.num (strL T.str))
      have HBS := hide (below_set5 HB.out (Nat.le_refl _) (.int .i64 T.kind) (.int .i64 k) (.int .i64 T.size) (.int .i64 T.num) (.string (strL T.str)))
      clear hb HX HB
      unfold tokAgg
      go_wp2_with fail
      exact end_tok Tryd.results11 rfl rfl HS.out rfl ⟨rfl, HBS.out⟩
    | false =>
      rw [h1] at Q1
      cases h2 : upB c with
      | true =>
        rw [h2] at Q2
        have hT2 : tokWord (c :: s.data.toList.drop (k + 1)) = T := by rw [← hT.out]; rw [tokL, if_pos (show (lowB c || upB c) = true by rw [h1, h2]; rfl)]
        have Q := hide (fun w => rword_c s k w hks hm)
        rw [hd, hT2] at Q
        clear hT hT2 hd
        go_enter Tryd.func11, Tryd.ntmps11
        go_upto_region 1 with (fail)
        generalize w.alloc (.cells #[.int .i64 0, .int .i64 0, .int .i64 0, .int .i64 0, .string { data := #[] }] 24) = w1 at *
        go_wp2_with fail
        refine (QS.out _).mono ?_
        rintro e w2 ⟨rfl, rfl⟩
        go_wp2_with fail
        refine (Q1.out _).mono ?_
        rintro e w2 ⟨rfl, rfl⟩
        go_wp2_with fail
        refine (Q2.out _).mono ?_
        rintro e w2 ⟨rfl, rfl⟩
        go_wp2_with fail
        refine (Q.out _).mono ?_
        rintro e w3 ⟨rfl, hb⟩
        replace HX := hide (HX.out.kept hb)
        replace HB := hide (Bel.then HB.out hb)
        obtain ⟨⟨c0, c1, c2, c3, c4⟩, ⟨y0, y1, y2, y3, y4⟩⟩ := HX.out.all
        have HS := hide (HX.out.set5 T.kind k T.size T.num (strL T.str))
        have HBS := hide (below_set5 HB.out (Nat.le_refl _) (.int .i64 T.kind) (.int .i64 k) (.int .i64 T.size) (.int .i64 T.num) (.string (strL T.str)))
        clear hb HX HB
        unfold tokAgg
        go_wp2_with fail
        exact end_tok Tryd.results11 rfl rfl HS.out rfl ⟨rfl, HBS.out⟩
      | false =>
        rw [h2] at Q2
        have h12 : ¬ (lowB c || upB c) = true := by rw [h1, h2]; decide
        cases h3 : digB c with
        | true =>
          rw [h3] at Q3
          have hT2 : tokNum (c :: s.data.toList.drop (k + 1)) = T := by rw [← hT.out]; rw [tokL, if_neg h12, if_pos h3]
          have Q := hide (fun w => rnumber_c s k w hks hm)
          rw [hd, hT2] at Q
          clear hT hT2 hd
          go_enter Tryd.func11, Tryd.ntmps11
          go_upto_region 1 with (fail)
          generalize w.alloc (.cells #[.int .i64 0, .int .i64 0, .int .i64 0, .int .i64 0, .string { data := #[] }] 24) = w1 at *
          go_wp2_with fail
          refine (QS.out _).mono ?_
          rintro e w2 ⟨rfl, rfl⟩
          go_wp2_with fail
          refine (Q1.out _).mono ?_
          rintro e w2 ⟨rfl, rfl⟩
          go_wp2_with fail
          refine (Q2.out _).mono ?_
          rintro e w2 ⟨rfl, rfl⟩
          go_wp2_with fail
          refine (Q3.out _).mono ?_
          rintro e w2 ⟨rfl, rfl⟩
          go_wp2_with fail
          refine (Q.out _).mono ?_
          rintro e w3 ⟨rfl, hb⟩
          replace HX := hide (HX.out.kept hb)
          replace HB := hide (Bel.then HB.out hb)
          obtain ⟨⟨c0, c1, c2, c3, c4⟩, ⟨y0, y1, y2, y3, y4⟩⟩ := HX.out.all
          have HS := hide (HX.out.set5 T.kind k T.size T.num (strL T.str))
          have HBS := hide (below_set5 HB.out (Nat.le_refl _) (.int .i64 T.kind) (.int .i64 k) (.int .i64 T.size) (.int .i64 T.num) (.string (strL T.str)))
          clear hb HX HB
          unfold tokAgg
          go_wp2_with fail
          exact end_tok Tryd.results11 rfl rfl HS.out rfl ⟨rfl, HBS.out⟩
        | false =>
          rw [h3] at Q3
          have h13 : ¬ digB c = true := by rw [h3]; decide
          by_cases h34 : c = 34
          · have hq : (c == 34) = true := by rw [h34]; rfl
            have hqi : ((c.toNat : Int) == 34) = true := by rw [h34]; rfl
            have hT2 : tokName (c :: s.data.toList.drop (k + 1)) = T := by rw [← hT.out]; rw [tokL, if_neg h12, if_neg h13, if_pos hq]
            have Q := hide (fun w => rquoted_c s k w hlt hm)
            rw [hd, hT2] at Q
            clear hT hT2 hd hq h34
            go_enter Tryd.func11, Tryd.ntmps11
            go_upto_region 1 with (fail)
            generalize w.alloc (.cells #[.int .i64 0, .int .i64 0, .int .i64 0, .int .i64 0, .string { data := #[] }] 24) = w1 at *
            go_wp2_with fail
            refine (QS.out _).mono ?_
            rintro e w2 ⟨rfl, rfl⟩
            go_wp2_with fail
            refine (Q1.out _).mono ?_
            rintro e w2 ⟨rfl, rfl⟩
            go_wp2_with fail
            refine (Q2.out _).mono ?_
            rintro e w2 ⟨rfl, rfl⟩
            go_wp2_with fail
            refine (Q3.out _).mono ?_
            rintro e w2 ⟨rfl, rfl⟩
            go_wp2_with fail
            refine (Q.out _).mono ?_
            rintro e w3 ⟨rfl, hb⟩
            replace HX := hide (HX.out.kept hb)
            replace HB := hide (Bel.then HB.out hb)
            obtain ⟨⟨c0, c1, c2, c3, c4⟩, ⟨y0, y1, y2, y3, y4⟩⟩ := HX.out.all
            have HS := hide (HX.out.set5 T.kind k T.size T.num (strL T.str))
            have HBS := hide (below_set5 HB.out (Nat.le_refl _) (.int .i64 T.kind) (.int .i64 k) (.int .i64 T.size) (.int .i64 T.num) (.string (strL T.str)))
            clear hb HX HB
            unfold tokAgg
            go_wp2_with fail
            exact end_tok Tryd.results11 rfl rfl HS.out rfl ⟨rfl, HBS.out⟩
          · have hq : ¬ (c == 34) = true := by simpa using h34
            have hqi : ((c.toNat : Int) == 34) = false := byte_ne c 34 (by decide) h34
            by_cases h39 : c = 39
            · have hr : (c == 39) = true := by rw [h39]; rfl
              have hri : ((c.toNat : Int) == 39) = true := by rw [h39]; rfl
              have hT2 : tokText (c :: s.data.toList.drop (k + 1)) = T := by rw [← hT.out]; rw [tokL, if_neg h12, if_neg h13, if_neg hq, if_pos hr]
              have Q := hide (fun w => rtext_c s k w hlt hm)
              rw [hd, hT2] at Q
              clear hT hT2 hd hq h34 hr h39
              go_enter Tryd.func11, Tryd.ntmps11
              go_upto_region 1 with (fail)
              generalize w.alloc (.cells #[.int .i64 0, .int .i64 0, .int .i64 0, .int .i64 0, .string { data := #[] }] 24) = w1 at *
              go_wp2_with fail
              refine (QS.out _).mono ?_
              rintro e w2 ⟨rfl, rfl⟩
              go_wp2_with fail
              refine (Q1.out _).mono ?_
              rintro e w2 ⟨rfl, rfl⟩
              go_wp2_with fail
              refine (Q2.out _).mono ?_
              rintro e w2 ⟨rfl, rfl⟩
              go_wp2_with fail
              refine (Q3.out _).mono ?_
              rintro e w2 ⟨rfl, rfl⟩
              go_wp2_with fail
              refine (Q.out _).mono ?_
              rintro e w3 ⟨rfl, hb⟩
              replace HX := hide (HX.out.kept hb)
              replace HB := hide (Bel.then HB.out hb)
              obtain ⟨⟨c0, c1, c2, c3, c4⟩, ⟨y0, y1, y2, y3, y4⟩⟩ := HX.out.all
              have HS := hide (HX.out.set5 T.kind k T.size T.num (strL T.str))
              have HBS := hide (below_set5 HB.out (Nat.le_refl _) (.int .i64 T.kind) (.int .i64 k) (.int .i64 T.size) (.int .i64 T.num) (.string (strL T.str)))
              clear hb HX HB
              unfold tokAgg
              go_wp2_with fail
              exact end_tok Tryd.results11 rfl rfl HS.out rfl ⟨rfl, HBS.out⟩
            · have hr : ¬ (c == 39) = true := by simpa using h39
              have hri : ((c.toNat : Int) == 39) = false := byte_ne c 39 (by decide) h39
              have hT2 : tokSign (c :: s.data.toList.drop (k + 1)) = T := by rw [← hT.out]; rw [tokL, if_neg h12, if_neg h13, if_neg hq, if_neg hr]
              have Q := hide (fun w => rsign_c s k w hlt hm)
              rw [hd, hT2] at Q
              clear hT hT2 hd hq h34 hr h39
              go_enter Tryd.func11, Tryd.ntmps11
              go_upto_region 1 with (fail)
              generalize w.alloc (.cells #[.int .i64 0, .int .i64 0, .int .i64 0, .int .i64 0, .string { data := #[] }] 24) = w1 at *
              go_wp2_with fail
              refine (QS.out _).mono ?_
              rintro e w2 ⟨rfl, rfl⟩
              go_wp2_with fail
              refine (Q1.out _).mono ?_
              rintro e w2 ⟨rfl, rfl⟩
              go_wp2_with fail
              refine (Q2.out _).mono ?_
              rintro e w2 ⟨rfl, rfl⟩
              go_wp2_with fail
              refine (Q3.out _).mono ?_
              rintro e w2 ⟨rfl, rfl⟩
              go_wp2_with fail
              refine (Q.out _).mono ?_
              rintro e w3 ⟨rfl, hb⟩
              replace HX := hide (HX.out.kept hb)
              replace HB := hide (Bel.then HB.out hb)
              obtain ⟨⟨c0, c1, c2, c3, c4⟩, ⟨y0, y1, y2, y3, y4⟩⟩ := HX.out.all
              have HS := hide (HX.out.set5 T.kind k T.size T.num (strL T.str))
              have HBS := hide (below_set5 HB.out (Nat.le_refl _) (.int .i64 T.kind) (.int .i64 k) (.int .i64 T.size) (.int .i64 T.num) (.string (strL T.str)))
              clear hb HX HB
              unfold tokAgg
              go_wp2_with fail
              exact end_tok Tryd.results11 rfl rfl HS.out rfl ⟨rfl, HBS.out⟩
set_option maxRecDepth 100000 in
set_option maxHeartbeats 4000000 in
theorem rtokens_c (s : ByteArray) (w : World) (hm : s.size ≤ 1048576) : Calls Tryd.prog 13 #[.string s] w (GivesToks w (tokensS s.data.toList)) := by
  have hl := str_len s
  obtain ⟨i0, hi0, hz0, hz1, hz2⟩ := info_parts tok_info
  unfold tokensS
  rw [hl]
  by_cases h2 : 2000 < s.size
  · have h2i : (2000 : Int) < s.size := by omega
    rw [if_pos h2]
    go_enter Tryd.func13, Tryd.ntmps13
    go_wp2_with fail
    go_ret3
    exact ⟨_, rfl, Below.refl _ _, World.ownsRow_nil _ _ _ _⟩
  · have h2i : ¬ (2000 : Int) < s.size := by omega
    rw [if_neg h2]
    obtain ⟨R, hR⟩ : ∃ R, tokensF s.data.toList (s.size + 1) 0 = R := ⟨_, rfl⟩
    have HR0 : Hid (catF [] (tokensF s.data.toList (s.size + 1) 0) = R) := by
      show _ = _
      rw [← hR]
      unfold catF
      split
      · rw [tokF_step] at *
        rename_i h
        revert h
        split
        · intro _; rfl
        · split
          · intro h; exact absurd rfl h
          · split
            · intro _; rfl
            · intro h; exact absurd rfl h
      · rw [tokF_step] at *
        rename_i h
        revert h
        split
        · rename_i h3; intro h; exact absurd h3 h
        · split
          · intro _; rfl
          · split
            · rename_i h3; intro h; exact absurd h3 h
            · intro _; rfl
    rw [hR]
    clear hR
    go_enter Tryd.func13, Tryd.ntmps13
    go_wp2_with fail
    go_loopw [5, 6] (fun v iv wr => ∃ (xs : List TokA) (a f : Nat), iv = .int .i64 a ∧ a ≤ s.size ∧ s.size - a < f ∧ xs.length ≤ a ∧ Hid (catF xs (tokensF s.data.toList f a) = R) ∧ Hid (Below w.heap.size w wr) ∧ Hid (wr.ownsRow w.heap.size 24 5 v xs.length (xs.map tokCells).flatten)) (fun _ iv _ => s.size - (intOf iv).toNat)
    case atStart => exact ⟨[], 0, s.size + 1, rfl, Nat.zero_le _, by omega, Nat.le_refl _, HR0, Below.refl _ _, World.ownsRow_nil _ _ _ _⟩
    case round =>
      clear HR0
      obtain ⟨xs, a, f, rfl, ha, hf, hxa, HR, HB, HO⟩ := hrel
      obtain ⟨f, rfl⟩ : ∃ f', f = f' + 1 := ⟨f - 1, by omega⟩
      have QN := hide (rnext_c s a wr ha hm)
      obtain ⟨n1, n2, n3⟩ := next_lies s.data.toList a (by omega)
      have hst := tokF_step s.data.toList f a
      obtain ⟨x, hx⟩ : ∃ x, nextAt s.data.toList a = x := ⟨_, rfl⟩
      rw [hx] at QN n1 n2 n3 hst
      have HR2 := HR.out
      rw [hst] at HR2
      clear HR hst
      have HRR := hide HR2
      clear HR2
      go_wp2_with fail
      refine QN.out.mono ?_
      rintro e w2 ⟨rfl, hb⟩
      obtain ⟨b, K, S, N, U, E⟩ := x
      simp only at n1 n2 n3 HRR ⊢
      obtain ⟨o7, ho7⟩ : ∃ o7 : Obj, o7 = .cells #[.int .i64 K, .int .i64 b, .int .i64 S, .int .i64 N, .string (strL U)] 24 := ⟨_, rfl⟩
      have HX7 : Hid (TokBox (w2.alloc o7) w2.heap.size K b S N (strL U)) := by rw [ho7]; exact heap_alloc_new w2 _
      have hlt := (own_below HO.out hb).lt
      replace HO := hide ((own_below HO.out hb).alloc o7)
      have hw2 : w.heap.size ≤ w2.heap.size := (Bel.then HB.out hb).size
      replace HB := hide ((Bel.then HB.out hb).alloc hw2 o7)
      unfold tokAgg
      go_upto_region 6 with (fail)
      rw [← ho7]
      have HS3 : Hid ((w2.alloc o7).heap.size = w2.heap.size + 1) := World.size_alloc _ _
      have HLT := hide hlt
      clear ho7 QN hx hb hlt
      generalize w2.alloc o7 = w3 at *
      obtain ⟨⟨p0, p1, p2, p3, p4⟩, ⟨q0, q1, q2, q3, q4⟩⟩ := HX7.out.all
      by_cases hE : E = 0
      · subst hE
        by_cases hK : K = 0
        · subst hK
          obtain rfl : (xs, 0, 0) = R := by rw [← HRR.out, if_neg (by decide), if_pos rfl]; unfold catF; rw [if_neg (by simp)]; simp
          clear HRR
          go_wp2_with fail
          go_ret3
          exact ⟨_, rfl, HB.out, HO.out⟩
        · have hKi : ((K : Int) == 0) = false := by rw [beq_eq_false_iff_ne]; omega
          obtain ⟨s1, s2⟩ := n3 rfl hK
          have HR3 : Hid (catF (xs ++ [⟨b, ⟨K, S, N, U, 0⟩⟩]) (tokensF s.data.toList f (b + S)) = R) := by
            show _ = _
            rw [← HRR.out, if_neg (by decide), if_neg hK]
            exact cat_cat _ _ _
          have f1 : IntKind.i64.wrap ((b : Int) + (S : Int)) = ((b + S : Nat) : Int) := by rw [IntWalk.i64_in _ (by omega)]; omega
          clear HRR n3
          go_upto_region 11 with (at_builtin; refine wpList_app rfl (.tmp 27) (.tmp 29) 29 rfl w.heap.size 24 i0 _ 5 48 Tryd.underlying29 hi0 hz0 hz1 hz2 rfl (by omega) u5 xs.length _ rfl (HO.out.alloc _) _ _ 1 1 (tokCells ⟨b, ⟨K, S, N, U, 0⟩⟩) rfl rfl (cells_lit w3 #[.int .i64 K, .int .i64 b, .int .i64 S, .int .i64 N, .string (strL U)] 24) (by simp [tokCells, Value.oneCell']) (by simp only [maxLen]; omega) (by omega) (by have := HB.out.size; simp; omega) (by simp) ?_; intro v4 w4 hown4 hg4 hat4)
          have HX4 : Hid (TokBox w4 w2.heap.size K b S N (strL U)) := by
            have h : w4.heap[w2.heap.size]? = _ := hg4.block w2.heap.size (by have := HS3.out; rw [World.size_alloc]; omega) (fun h => by have := (HLT.out _ h.symm).2; omega)
            have h3 := (Bel.one w3 (.cells #[.int .i64 K, .int .i64 b, .int .i64 S, .int .i64 N, .string (strL U)] 24)).block w2.heap.size (by have := HS3.out; omega)
            exact (h.trans h3).trans HX7.out
          have HB4 := hide ((HB.out.alloc HB.out.size _).grown hg4 (by have := HB.out.size; rw [World.size_alloc]; omega) (fun q hq => (HO.out.lt q hq).1))
          obtain ⟨xs2, hxs2⟩ : ∃ xs2 : List TokA, xs2 = xs ++ [⟨b, ⟨K, S, N, U, 0⟩⟩] := ⟨_, rfl⟩
          have HO4 : Hid (w4.ownsRow w.heap.size 24 5 v4 xs2.length (xs2.map tokCells).flatten) := by
            show World.ownsRow _ _ _ _ _ _ _
            rw [hxs2, List.length_append, List.map_append, List.flatten_append]
            simpa using hown4
          have hl2 : xs2.length ≤ b + S := by rw [hxs2, List.length_append]; show xs.length + 1 ≤ _; omega
          rw [← hxs2] at HR3
          clear hxs2
          clear hown4 hg4 hat4 HX7 HB HO HS3 HLT p0 p1 p2 p3 p4 q0 q1 q2 q3 q4
          obtain ⟨⟨p0, p1, p2, p3, p4⟩, ⟨q0, q1, q2, q3, q4⟩⟩ := HX4.out.all
          clear HX4 q0 q1 q2 q3 q4 p0 p3 p4
          go_wp2_with fail
          go_roundw
          case rel => exact ⟨xs2, b + S, f, rfl, by omega, by omega, hl2, HR3, HB4, HO4⟩
          case measure => simp [intOf]; omega
      · have hEi : ((E : Int) == 0) = false := by rw [beq_eq_false_iff_ne]; omega
        have hEi2 : ((E : Int) != 0) = true := by rw [bne, hEi]; rfl
        obtain rfl : (([] : List TokA), b, E) = R := by rw [← HRR.out, if_pos hE]; unfold catF; rw [if_pos hE]
        clear HRR n3
        go_upto_region 7 with (fail)
        go_quiet (fail)
        go_wp2_with fail
        go_ret3
        exact ⟨_, rfl, HB.out.trans ⟨rfl, rfl, rfl, Nat.le_refl _, fun _ _ => rfl⟩, World.ownsRow_nil _ _ _ _⟩
set_option maxRecDepth 100000 in
set_option maxHeartbeats 4000000 in
theorem rname_c (s : ByteArray) (w : World) (hm : s.size ≤ 1048576) : Calls Tryd.prog 18 #[.string s] w fun e w' => e = .returned (.bool (formB s.data.toList && decide (s.size ≤ 20) && !resB s.data.toList)) ∧ w = w' := by
  have QF := hide (fun w => rplain_c s w hm)
  have QR := hide (fun w => rreserved_c s w hm)
  cases hf : formB s.data.toList with
  | false =>
    rw [hf] at QF
    go_enter Tryd.func18, Tryd.ntmps18
    go_wp2_with fail
    refine (QF.out _).mono ?_
    rintro e w2 ⟨rfl, rfl⟩
    go_wp2_with fail
    go_ret
    exact ⟨rfl, rfl⟩
  | true =>
    rw [hf] at QF
    by_cases h20 : s.size ≤ 20
    · have h20i : (s.size : Int) ≤ 20 := by omega
      rw [decide_eq_true h20]
      cases hr : resB s.data.toList
      all_goals
        rw [hr] at QR
        go_enter Tryd.func18, Tryd.ntmps18
        go_wp2_with fail
        refine (QF.out _).mono ?_
        rintro e w2 ⟨rfl, rfl⟩
        go_wp2_with fail
        refine (QR.out _).mono ?_
        rintro e w3 ⟨rfl, rfl⟩
        go_wp2_with fail
        go_ret
        exact ⟨rfl, rfl⟩
    · have h20i : ¬ (s.size : Int) ≤ 20 := by omega
      rw [decide_eq_false h20]
      go_enter Tryd.func18, Tryd.ntmps18
      go_wp2_with fail
      refine (QF.out _).mono ?_
      rintro e w2 ⟨rfl, rfl⟩
      go_wp2_with fail
      go_ret
      exact ⟨rfl, rfl⟩
theorem toks_at {w : World} {base : Nat} {v : Value} {xs : List TokA} (h : w.ownsRow base 24 5 v xs.length (xs.map tokCells).flatten) : ∃ A c, v = .slice A xs.length c ∧ SlAt tokCells 5 w w.heap.size A xs.length c xs := sl_of_own h fun _ => rfl
set_option maxRecDepth 100000 in
set_option maxHeartbeats 1000000 in
/-- A list of tokens is the same as itself. -/
theorem rsame_c (A1 A2 : Option Addr) (c1 c2 n : Nat) (xs : List TokA) (w : World) (h1 : SlAt tokCells 5 w w.heap.size A1 n c1 xs) (h2 : SlAt tokCells 5 w w.heap.size A2 n c2 xs) : Calls Tryd.prog 14 #[.slice A1 n c1, .slice A2 n c2] w fun e w' => e = .returned (.bool true) ∧ Below w.heap.size w w' := by
  have hmax := Nat.le_trans h1.cap h1.max
  unfold maxLen at hmax
  have S1 := hide h1
  have S2 := hide h2
  have hne : (n != n) = false := by simp
  clear h1 h2
  go_enter Tryd.func14, Tryd.ntmps14
  go_wp2_with fail
  go_loopw [5] (fun i wr => ∃ k q : Nat, k ≤ n ∧ i = .int .i64 k ∧ wr = w.drewN q) (fun i _ => n - (intOf i).toNat)
  case atStart => exact ⟨0, 0, Nat.zero_le _, rfl, rfl⟩
  case round =>
    obtain ⟨k, q, hk, rfl, rfl⟩ := hrel
    by_cases hlt : k < n
    · have hlti : (k : Int) < n := by omega
      have hwk : IntKind.i64.wrap ((k : Int) + 1) = (k : Int) + 1 := IntWalk.i64_in _ (by omega)
      obtain ⟨b, off, x, rfl, _, hx, hc⟩ := S1.out.at (by omega) hlt
      obtain ⟨b', off', x', rfl, _, hx', hc'⟩ := S2.out.at (by omega) hlt
      have hxx : x' = x := by rw [hx] at hx'; injection hx' with h; exact h.symm
      subst hxx
      have l0 := hc 0 _ rfl
      have l1 := hc 1 _ rfl
      have l2 := hc 2 _ rfl
      have l3 := hc 3 _ rfl
      have l4 := hc 4 _ rfl
      have m0 := hc' 0 _ rfl
      have m1 := hc' 1 _ rfl
      have m2 := hc' 2 _ rfl
      have m3 := hc' 3 _ rfl
      have m4 := hc' 4 _ rfl
      rw [Nat.add_zero] at l0 m0
      rw [← Nat.add_assoc] at l1 l2 l3 l4 m1 m2 m3 m4
      have hself := tokEq_same x'.t.kind x'.at_ x'.t.size x'.t.num (strL x'.t.str)
      clear hc hc' hx hx'
      go_wp2_with fail
      go_quiet (fail)
      go_wp2_with fail
      go_roundw
      case rel => exact ⟨k + 1, _, by omega, by go_num, by first | rfl | simp only [World.drewN_drewN]⟩
      case measure => simp [intOf]; omega
    · have hlti : ¬ (k : Int) < n := by omega
      go_wp2_with fail
      go_ret
      exact ⟨rfl, Bel.drewN (Below.refl _ _) _⟩
end Go.Proofs.YtcmhnaanfkpheaaDoor
