/- The contract of lex.read. -/
import Derived.Test.YtcmhnaanfkpheaaDoorLxU
namespace Go.Proofs.YtcmhnaanfkpheaaDoor
set_option linter.unusedVariables false
open Go.ChangeShapes Go.WideShapes Go.ChangeAt Go.RowKit

theorem max_kept {w w' : World} (h : ∃ m, w.cell? ⟨1, 0, none⟩ = some (.int .i64 m)) (hb : Below w.heap.size w w') : ∃ m, w'.cell? ⟨1, 0, none⟩ = some (.int .i64 m) := let ⟨m, hm⟩ := h; ⟨m, kept hb hm⟩
theorem low_not {c : UInt8} (h : digB c = true) : lowB c = false ∧ upB c = false := by
  obtain ⟨h1, h2⟩ := dig_range h
  unfold lowB upB
  have h3 : (c == 95) = false := by rw [beq_eq_false_iff_ne]; intro e; subst e; exact absurd h2 (by decide)
  rw [decide_eq_false (show ¬ 97 ≤ c.toNat by omega), decide_eq_false (show ¬ 65 ≤ c.toNat by omega), h3]
  exact ⟨rfl, rfl⟩
set_option maxRecDepth 100000 in
set_option maxHeartbeats 8000000 in
theorem read_c (s : ByteArray) (a : Nat) (w : World) (hM : ∃ m, w.cell? ⟨1, 0, none⟩ = some (.int .i64 m)) (ha : a < s.size) (hm : s.size ≤ 1048576) : Calls Tryd.prog 21 #[.string s, .int .i64 a] w (GivesTok w (tokL (s.data.toList.drop a)) 0) := by
  have hl := str_len s
  have hai : (a : Int) < s.size := by omega
  have ha2 : a ≤ s.size := by omega
  have ha3 : (a : Int) ≤ s.size := by omega
  have ha0 : (0 : Int) ≤ (a : Int) := by omega
  have hd := drop_str ha
  rw [hd]
  generalize hc : s[a] = c at *
  have hcl := c.toNat_lt
  have hwc : IntKind.i32.wrap (c.toNat : Int) = (c.toNat : Int) := IntWalk.i32_in _ (by omega)
  have Q1 := hide (fun W => letter_c c.toNat W)
  have Q2 := hide (fun W => upper_c c.toNat W)
  have Q3 := hide (fun W => digit_c c.toNat W)
  rw [low_byte] at Q1
  rw [up_byte] at Q2
  rw [dig_byte] at Q3
  obtain ⟨T, hTT⟩ : ∃ T, tokL (c :: s.data.toList.drop (a + 1)) = T := ⟨_, rfl⟩
  rw [hTT]
  have hT := hide hTT
  clear hTT
  have HX := hide (tb_new w)
  have HB := hide (Bel.one w tok0)
  have HM := hide hM
  clear hM
  cases h1 : lowB c with
  | true =>
    rw [h1] at Q1
    have hT2 : tokWord (c :: s.data.toList.drop (a + 1)) = T := by rw [← hT.out]; rw [tokL, if_pos (show (lowB c || upB c) = true by rw [h1]; rfl)]
    have Q := hide (fun w (h : ∃ m, w.cell? ⟨1, 0, none⟩ = some (.int .i64 m)) => word_c (s.extract a s.size) w (by rw [ByteArray.size_extract]; omega))
    rw [extract_drop, hd, hT2] at Q
    clear hT hT2 hd
    go_enter Tryd.func21, Tryd.ntmps21
    go_upto_region 1 with (fail)
    generalize w.alloc (.cells #[.int .i64 0, .int .i64 0, .int .i64 0, .int .i64 0, .string { data := #[] }] 24) = w1 at *
    go_wp2_with fail
    refine (Q1.out _).mono ?_
    rintro e w2 ⟨rfl, rfl⟩
    go_wp2_with fail
    have HM2 := hide (max_kept HM.out HB.out)
    refine (Q.out _ HM2.out).mono ?_
    rintro e w3 ⟨rfl, hb⟩
    replace HX := hide (HX.out.kept hb)
    replace HB := hide (Bel.then HB.out hb)
    obtain ⟨⟨c0, c1, c2, c3, c4⟩, ⟨y0, y1, y2, y3, y4⟩⟩ := HX.out.all
    have HS := hide (HX.out.set5 T.kind 0 T.size T.num (strL T.str))
    have HBS := hide (below_set5 HB.out (Nat.le_refl _) (.int .i64 T.kind) (.int .i64 0) (.int .i64 T.size) (.int .i64 T.num) (.string (strL T.str)))
    clear hb HX HB
    unfold tokAgg
    go_wp2_with fail
    exact end_tok Tryd.results21 rfl rfl HS.out rfl ⟨rfl, HBS.out⟩
  | false =>
    rw [h1] at Q1
    cases h2 : upB c with
    | true =>
      rw [h2] at Q2
      have hT2 : tokWord (c :: s.data.toList.drop (a + 1)) = T := by rw [← hT.out]; rw [tokL, if_pos (show (lowB c || upB c) = true by rw [h1, h2]; rfl)]
      have Q := hide (fun w (h : ∃ m, w.cell? ⟨1, 0, none⟩ = some (.int .i64 m)) => word_c (s.extract a s.size) w (by rw [ByteArray.size_extract]; omega))
      rw [extract_drop, hd, hT2] at Q
      clear hT hT2 hd
      go_enter Tryd.func21, Tryd.ntmps21
      go_upto_region 1 with (fail)
      generalize w.alloc (.cells #[.int .i64 0, .int .i64 0, .int .i64 0, .int .i64 0, .string { data := #[] }] 24) = w1 at *
      go_wp2_with fail
      refine (Q1.out _).mono ?_
      rintro e w2 ⟨rfl, rfl⟩
      go_wp2_with fail
      refine (Q2.out _).mono ?_
      rintro e w2 ⟨rfl, rfl⟩
      go_wp2_with fail
      have HM2 := hide (max_kept HM.out HB.out)
      refine (Q.out _ HM2.out).mono ?_
      rintro e w3 ⟨rfl, hb⟩
      replace HX := hide (HX.out.kept hb)
      replace HB := hide (Bel.then HB.out hb)
      obtain ⟨⟨c0, c1, c2, c3, c4⟩, ⟨y0, y1, y2, y3, y4⟩⟩ := HX.out.all
      have HS := hide (HX.out.set5 T.kind 0 T.size T.num (strL T.str))
      have HBS := hide (below_set5 HB.out (Nat.le_refl _) (.int .i64 T.kind) (.int .i64 0) (.int .i64 T.size) (.int .i64 T.num) (.string (strL T.str)))
      clear hb HX HB
      unfold tokAgg
      go_wp2_with fail
      exact end_tok Tryd.results21 rfl rfl HS.out rfl ⟨rfl, HBS.out⟩
    | false =>
      rw [h2] at Q2
      have h12 : ¬ (lowB c || upB c) = true := by rw [h1, h2]; decide
      cases h3 : digB c with
      | true =>
        rw [h3] at Q3
        have hT2 : tokNum (c :: s.data.toList.drop (a + 1)) = T := by rw [← hT.out]; rw [tokL, if_neg h12, if_pos h3]
        have Q := hide (fun w (h : ∃ m, w.cell? ⟨1, 0, none⟩ = some (.int .i64 m)) => number_c (s.extract a s.size) w (by rw [ByteArray.size_extract]; omega))
        rw [extract_drop, hd, hT2] at Q
        clear hT hT2 hd
        go_enter Tryd.func21, Tryd.ntmps21
        go_upto_region 1 with (fail)
        generalize w.alloc (.cells #[.int .i64 0, .int .i64 0, .int .i64 0, .int .i64 0, .string { data := #[] }] 24) = w1 at *
        go_wp2_with fail
        refine (Q1.out _).mono ?_
        rintro e w2 ⟨rfl, rfl⟩
        go_wp2_with fail
        refine (Q2.out _).mono ?_
        rintro e w2 ⟨rfl, rfl⟩
        go_wp2_with fail
        refine (Q3.out _).mono ?_
        rintro e w2 ⟨rfl, rfl⟩
        go_wp2_with fail
        have HM2 := hide (max_kept HM.out HB.out)
        refine (Q.out _ HM2.out).mono ?_
        rintro e w3 ⟨rfl, hb⟩
        replace HX := hide (HX.out.kept hb)
        replace HB := hide (Bel.then HB.out hb)
        obtain ⟨⟨c0, c1, c2, c3, c4⟩, ⟨y0, y1, y2, y3, y4⟩⟩ := HX.out.all
        have HS := hide (HX.out.set5 T.kind 0 T.size T.num (strL T.str))
        have HBS := hide (below_set5 HB.out (Nat.le_refl _) (.int .i64 T.kind) (.int .i64 0) (.int .i64 T.size) (.int .i64 T.num) (.string (strL T.str)))
        clear hb HX HB
        unfold tokAgg
        go_wp2_with fail
        exact end_tok Tryd.results21 rfl rfl HS.out rfl ⟨rfl, HBS.out⟩
      | false =>
        rw [h3] at Q3
        have h13 : ¬ digB c = true := by rw [h3]; decide
        by_cases h34 : c = 34
        · have hq : (c == 34) = true := by rw [h34]; rfl
          have hqi : ((c.toNat : Int) == 34) = true := by rw [h34]; rfl
          have hT2 : tokName (c :: s.data.toList.drop (a + 1)) = T := by rw [← hT.out]; rw [tokL, if_neg h12, if_neg h13, if_pos hq]
          have Q := hide (fun w (h : ∃ m, w.cell? ⟨1, 0, none⟩ = some (.int .i64 m)) => quoted_c (s.extract a s.size) w (by rw [ByteArray.size_extract]; omega) (by rw [ByteArray.size_extract]; omega))
          rw [extract_drop, hd, hT2] at Q
          clear hT hT2 hd hq h34
          go_enter Tryd.func21, Tryd.ntmps21
          go_upto_region 1 with (fail)
          generalize w.alloc (.cells #[.int .i64 0, .int .i64 0, .int .i64 0, .int .i64 0, .string { data := #[] }] 24) = w1 at *
          go_wp2_with fail
          refine (Q1.out _).mono ?_
          rintro e w2 ⟨rfl, rfl⟩
          go_wp2_with fail
          refine (Q2.out _).mono ?_
          rintro e w2 ⟨rfl, rfl⟩
          go_wp2_with fail
          refine (Q3.out _).mono ?_
          rintro e w2 ⟨rfl, rfl⟩
          go_wp2_with fail
          have HM2 := hide (max_kept HM.out HB.out)
          refine (Q.out _ HM2.out).mono ?_
          rintro e w3 ⟨rfl, hb⟩
          replace HX := hide (HX.out.kept hb)
          replace HB := hide (Bel.then HB.out hb)
          obtain ⟨⟨c0, c1, c2, c3, c4⟩, ⟨y0, y1, y2, y3, y4⟩⟩ := HX.out.all
          have HS := hide (HX.out.set5 T.kind 0 T.size T.num (strL T.str))
          have HBS := hide (below_set5 HB.out (Nat.le_refl _) (.int .i64 T.kind) (.int .i64 0) (.int .i64 T.size) (.int .i64 T.num) (.string (strL T.str)))
          clear hb HX HB
          unfold tokAgg
          go_wp2_with fail
          exact end_tok Tryd.results21 rfl rfl HS.out rfl ⟨rfl, HBS.out⟩
        · have hq : ¬ (c == 34) = true := by simpa using h34
          have hqi : ((c.toNat : Int) == 34) = false := byte_ne c 34 (by decide) h34
          by_cases h39 : c = 39
          · have hr : (c == 39) = true := by rw [h39]; rfl
            have hri : ((c.toNat : Int) == 39) = true := by rw [h39]; rfl
            have hT2 : tokText (c :: s.data.toList.drop (a + 1)) = T := by rw [← hT.out]; rw [tokL, if_neg h12, if_neg h13, if_neg hq, if_pos hr]
            have Q := hide (fun w (h : ∃ m, w.cell? ⟨1, 0, none⟩ = some (.int .i64 m)) => text_c (s.extract a s.size) w h (by rw [ByteArray.size_extract]; omega) (by rw [ByteArray.size_extract]; omega))
            rw [extract_drop, hd, hT2] at Q
            clear hT hT2 hd hq h34 hr h39
            go_enter Tryd.func21, Tryd.ntmps21
            go_upto_region 1 with (fail)
            generalize w.alloc (.cells #[.int .i64 0, .int .i64 0, .int .i64 0, .int .i64 0, .string { data := #[] }] 24) = w1 at *
            go_wp2_with fail
            refine (Q1.out _).mono ?_
            rintro e w2 ⟨rfl, rfl⟩
            go_wp2_with fail
            refine (Q2.out _).mono ?_
            rintro e w2 ⟨rfl, rfl⟩
            go_wp2_with fail
            refine (Q3.out _).mono ?_
            rintro e w2 ⟨rfl, rfl⟩
            go_wp2_with fail
            have HM2 := hide (max_kept HM.out HB.out)
            refine (Q.out _ HM2.out).mono ?_
            rintro e w3 ⟨rfl, hb⟩
            replace HX := hide (HX.out.kept hb)
            replace HB := hide (Bel.then HB.out hb)
            obtain ⟨⟨c0, c1, c2, c3, c4⟩, ⟨y0, y1, y2, y3, y4⟩⟩ := HX.out.all
            have HS := hide (HX.out.set5 T.kind 0 T.size T.num (strL T.str))
            have HBS := hide (below_set5 HB.out (Nat.le_refl _) (.int .i64 T.kind) (.int .i64 0) (.int .i64 T.size) (.int .i64 T.num) (.string (strL T.str)))
            clear hb HX HB
            unfold tokAgg
            go_wp2_with fail
            exact end_tok Tryd.results21 rfl rfl HS.out rfl ⟨rfl, HBS.out⟩
          · have hr : ¬ (c == 39) = true := by simpa using h39
            have hri : ((c.toNat : Int) == 39) = false := byte_ne c 39 (by decide) h39
            have hT2 : tokSign (c :: s.data.toList.drop (a + 1)) = T := by rw [← hT.out]; rw [tokL, if_neg h12, if_neg h13, if_neg hq, if_neg hr]
            have Q := hide (fun w => sign_c (s.extract a s.size) w (by rw [ByteArray.size_extract]; omega) (by rw [ByteArray.size_extract]; omega))
            rw [extract_drop, hd] at Q
            have hsz := signB_le (c :: s.data.toList.drop (a + 1))
            rw [← hd, List.length_drop, hl, hd] at hsz
            have hw : ∀ n, (s.extract a (a + n)) = strL ((c :: s.data.toList.drop (a + 1)).take n) := fun n => by rw [strL_extract, hd, Nat.add_sub_cancel_left]
            obtain ⟨n, hn⟩ : ∃ n, signB (c :: s.data.toList.drop (a + 1)) = n := ⟨_, rfl⟩
            replace hw := hw n
            unfold tokSign at hT2
            rw [hn] at Q hsz hT2
            obtain ⟨b, hb⟩ : ∃ b, a + n = b := ⟨_, rfl⟩
            have f1 : IntKind.i64.wrap ((a : Int) + (n : Int)) = (b : Int) := by rw [IntWalk.i64_in _ (by omega)]; omega
            have g1 : a ≤ b := by omega
            have g2 : b ≤ s.size := by omega
            have g3 : (a : Int) ≤ (b : Int) := by omega
            have g4 : (b : Int) ≤ s.size := by omega
            rw [hb] at hw
            obtain ⟨⟨c0, c1, c2, c3, c4⟩, ⟨y0, y1, y2, y3, y4⟩⟩ := HX.out.all
            have HS := hide (fun (k a s n : Int) (t : ByteArray) => HX.out.set5 k a s n t)
            have HBS := hide (fun (k a s n : Int) (t : ByteArray) => below_set5 HB.out (Nat.le_refl _) (.int .i64 k) (.int .i64 a) (.int .i64 s) (.int .i64 n) (.string t))
            clear hT hd hq h34 hr h39 hn hsz HX HB
            by_cases h0 : n = 0
            · subst h0
              obtain rfl : tokBad 2 = T := by rw [← hT2]; rfl
              clear hT2 hw hb
              go_enter Tryd.func21, Tryd.ntmps21
              go_upto_region 1 with (fail)
              generalize w.alloc (.cells #[.int .i64 0, .int .i64 0, .int .i64 0, .int .i64 0, .string { data := #[] }] 24) = w1 at *
              go_wp2_with fail
              refine (Q1.out _).mono ?_
              rintro e w2 ⟨rfl, rfl⟩
              go_wp2_with fail
              refine (Q2.out _).mono ?_
              rintro e w2 ⟨rfl, rfl⟩
              go_wp2_with fail
              refine (Q3.out _).mono ?_
              rintro e w2 ⟨rfl, rfl⟩
              go_wp2_with fail
              refine (Q.out _).mono ?_
              rintro e w2 ⟨rfl, rfl⟩
              go_wp2_with fail
              exact end_tok Tryd.results21 rfl rfl (HS.out 0 0 0 0 { data := #[] }) rfl ⟨rfl, HBS.out 0 0 0 0 { data := #[] }⟩
            · have h0i : ((n : Int) == 0) = false := by rw [beq_eq_false_iff_ne]; omega
              obtain rfl : (⟨5, n, 0, (c :: s.data.toList.drop (a + 1)).take n, 0⟩ : Tok) = T := by rw [← hT2, if_neg (by simpa using h0)]
              generalize (c :: s.data.toList.drop (a + 1)).take n = t at *
              clear hT2 hb
              go_enter Tryd.func21, Tryd.ntmps21
              go_upto_region 1 with (fail)
              generalize w.alloc (.cells #[.int .i64 0, .int .i64 0, .int .i64 0, .int .i64 0, .string { data := #[] }] 24) = w1 at *
              go_wp2_with fail
              refine (Q1.out _).mono ?_
              rintro e w2 ⟨rfl, rfl⟩
              go_wp2_with fail
              refine (Q2.out _).mono ?_
              rintro e w2 ⟨rfl, rfl⟩
              go_wp2_with fail
              refine (Q3.out _).mono ?_
              rintro e w2 ⟨rfl, rfl⟩
              go_wp2_with fail
              refine (Q.out _).mono ?_
              rintro e w2 ⟨rfl, rfl⟩
              go_wp2_with fail
              exact end_tok Tryd.results21 rfl rfl (HS.out 5 0 n 0 (strL t)) rfl ⟨rfl, HBS.out 5 0 n 0 (strL t)⟩
end Go.Proofs.YtcmhnaanfkpheaaDoor
