/- The contract of lex.word. -/
import Derived.Test.YtcmhnaanfkpheaaDoorLxE
namespace Go.Proofs.YtcmhnaanfkpheaaDoor
set_option linter.unusedVariables false
open Go.ChangeShapes Go.WideShapes Go.ChangeAt Go.RowKit

theorem lower_small : ∀ c : UInt8, Lib.lowerB c = smallB c := by
  have h : ∀ i : Fin 256, Lib.lowerB (UInt8.ofNat i.val) = smallB (UInt8.ofNat i.val) := by decide +kernel
  intro c
  have := h ⟨c.toNat, c.toNat_lt⟩
  simpa using this
theorem word_ascii {c : UInt8} (h : wordB c = true) : c.toNat < 128 := by
  unfold wordB lowB upB digB at h
  simp at h
  rcases h with (((h | h) | h) | h)
  · omega
  · rw [h]; decide
  · omega
  · omega
theorem front_list (s : ByteArray) (k : Nat) : (s.extract 0 k).data.toList = s.data.toList.take k := by
  rw [ByteArray.data_extract, Array.toList_extract, List.extract_eq_take_drop, List.drop_zero, Nat.sub_zero]
set_option maxRecDepth 100000 in
set_option maxHeartbeats 4000000 in
theorem word_c (s : ByteArray) (w : World) (hm : s.size ≤ 1048576) : Calls Tryd.prog 36 #[.string s] w (GivesTok w (tokWord s.data.toList) 0) := by
  have hl := str_len s
  obtain ⟨F, hF⟩ : ∃ F, runB wordB s.data.toList = F := ⟨_, rfl⟩
  have hFl : F ≤ s.size := by rw [← hF, ← hl]; exact run_le _ _
  obtain ⟨W, hW⟩ : ∃ W, (s.data.toList.take F).map smallB = W := ⟨_, rfl⟩
  have hT : tokWord s.data.toList = if resB W then ⟨1, F, 0, W, 0⟩ else if 20 < F then tokBad 4 else ⟨2, F, 0, W, 0⟩ := by unfold tokWord; simp only [hF, hW]
  obtain ⟨T, hTT⟩ : ∃ T, tokWord s.data.toList = T := ⟨_, rfl⟩
  have HT : Hid ((if resB W then ⟨1, F, 0, W, 0⟩ else if 20 < F then tokBad 4 else ⟨2, F, 0, W, 0⟩) = T) := by show _ = _; rw [← hT]; exact hTT
  rw [hTT]
  have QL := hide (fun w => Tryd.strings_ToLower_ascii (s.extract 0 F) w (by rw [ByteArray.size_extract]; omega) (fun j b hb => by
    rw [front_list] at hb
    have hj := (List.getElem?_eq_some_iff.1 hb).1
    rw [List.length_take] at hj
    rw [List.getElem?_take_of_lt (by omega)] at hb
    exact word_ascii (run_at (by omega) hb)))
  have hlo : Lib.toLowerA (s.extract 0 F).data.toList = W := by
    rw [front_list, ← hW]
    unfold Lib.toLowerA
    exact List.map_congr_left fun c _ => lower_small c
  rw [hlo] at QL
  have QR := hide (fun w => reserved_c (strL W) w)
  rw [strL_list] at QR
  have HF0 : Hid (0 + runB wordB (s.data.toList.drop 0) = F) := by show _ = _; rw [Nat.zero_add]; exact hF
  have HX0 := hide (tb_new w)
  have HB0 := hide (Bel.one w tok0)
  clear hT hF hW hTT hlo
  go_enter Tryd.func36, Tryd.ntmps36
  go_upto_region 1 with (fail)
  generalize w.alloc (.cells #[.int .i64 0, .int .i64 0, .int .i64 0, .int .i64 0, .string { data := #[] }] 24) = w1 at *
  go_wp2_with fail
  go_loopw [4] (fun kv wr => ∃ k : Nat, kv = .int .i64 k ∧ k ≤ s.size ∧ Hid (k + runB wordB (s.data.toList.drop k) = F) ∧ Hid (TokBox wr w.heap.size 0 0 0 0 { data := #[] }) ∧ Hid (Below w.heap.size w wr)) (fun kv _ => s.size - (intOf kv).toNat)
  case atStart => exact ⟨0, rfl, Nat.zero_le _, HF0, HX0, HB0⟩
  case round =>
    clear HF0 HX0 HB0
    obtain ⟨k, rfl, hk, HF, HX, HB⟩ := hrel
    by_cases hlt : k < s.size
    · have hlti : (k : Int) < s.size := by omega
      have f0 : decide ((k : Int) < (s.size : Int)) = true := decide_eq_true hlti
      have hwk : IntKind.i64.wrap ((k : Int) + 1) = (k : Int) + 1 := IntWalk.i64_in _ (by omega)
      have hd := drop_str hlt
      rw [hd] at HF
      generalize hc : s[k] = c at *
      have hcl := c.toNat_lt
      have hwc : IntKind.i32.wrap (c.toNat : Int) = (c.toNat : Int) := IntWalk.i32_in _ (by omega)
      have Q1 := hide (fun W => letter_c c.toNat W)
      have Q2 := hide (fun W => upper_c c.toNat W)
      have Q3 := hide (fun W => digit_c c.toNat W)
      rw [low_byte] at Q1
      rw [up_byte] at Q2
      rw [dig_byte] at Q3
      cases h1 : lowB c with
      | true =>
        have hw : wordB c = true := by unfold wordB; rw [h1]; rfl
        rw [h1] at Q1
        have HF2 : Hid (k + 1 + runB wordB (s.data.toList.drop (k + 1)) = F) := by have := HF.out; rw [run_cons hw] at this; show _ = _; omega
        clear HF hd hw
        go_wp2_with fail
        refine (Q1.out _).mono ?_
        rintro e w2 ⟨rfl, rfl⟩
        go_wp2_with fail
        go_roundw
        case rel => exact ⟨k + 1, by go_num, by omega, HF2, HX, HB⟩
        case measure => simp [intOf]; omega
      | false =>
        rw [h1] at Q1
        cases h2 : upB c with
        | true =>
          have hw : wordB c = true := by unfold wordB; rw [h2]; simp
          rw [h2] at Q2
          have HF2 : Hid (k + 1 + runB wordB (s.data.toList.drop (k + 1)) = F) := by have := HF.out; rw [run_cons hw] at this; show _ = _; omega
          clear HF hd hw
          go_wp2_with fail
          refine (Q1.out _).mono ?_
          rintro e w2 ⟨rfl, rfl⟩
          go_wp2_with fail
          refine (Q2.out _).mono ?_
          rintro e w2 ⟨rfl, rfl⟩
          go_wp2_with fail
          go_roundw
          case rel => exact ⟨k + 1, by go_num, by omega, HF2, HX, HB⟩
          case measure => simp [intOf]; omega
        | false =>
          rw [h2] at Q2
          cases h3 : digB c with
          | true =>
            have hw : wordB c = true := by unfold wordB; rw [h3]; simp
            rw [h3] at Q3
            have HF2 : Hid (k + 1 + runB wordB (s.data.toList.drop (k + 1)) = F) := by have := HF.out; rw [run_cons hw] at this; show _ = _; omega
            clear HF hd hw
            go_wp2_with fail
            refine (Q1.out _).mono ?_
            rintro e w2 ⟨rfl, rfl⟩
            go_wp2_with fail
            refine (Q2.out _).mono ?_
            rintro e w2 ⟨rfl, rfl⟩
            go_wp2_with fail
            refine (Q3.out _).mono ?_
            rintro e w2 ⟨rfl, rfl⟩
            go_wp2_with fail
            go_roundw
            case rel => exact ⟨k + 1, by go_num, by omega, HF2, HX, HB⟩
            case measure => simp [intOf]; omega
          | false =>
            rw [h3] at Q3
            have hw : wordB c = false := by unfold wordB; rw [h1, h2, h3]; rfl
            obtain rfl : k = F := by have := HF.out; rw [run_stop hw] at this; exact this
            clear hw hd h1 h2 h3
            clear HF
            go_wp2_with fail
            refine (Q1.out _).mono ?_
            rintro e w2 ⟨rfl, rfl⟩
            go_wp2_with fail
            refine (Q2.out _).mono ?_
            rintro e w2 ⟨rfl, rfl⟩
            go_wp2_with fail
            refine (Q3.out _).mono ?_
            rintro e w2 ⟨rfl, rfl⟩
            go_wp2_with fail
            refine (QL.out _).mono ?_
            rintro e w3 ⟨rfl, hb⟩
            replace HX := hide (HX.out.kept hb)
            replace HB := hide (Bel.then HB.out hb)
            clear hb QL
            obtain ⟨⟨c0, c1, c2, c3, c4⟩, ⟨y0, y1, y2, y3, y4⟩⟩ := HX.out.all
            have HS := hide (fun (k a s n : Int) (t : ByteArray) => HX.out.set5 k a s n t)
            have HBS := hide (fun (k a s n : Int) (t : ByteArray) => below_set5 HB.out (Nat.le_refl _) (.int .i64 k) (.int .i64 a) (.int .i64 s) (.int .i64 n) (.string t))
            cases hr : resB W with
            | true =>
              obtain rfl : (⟨1, k, 0, W, 0⟩ : Tok) = T := by rw [← HT.out, if_pos hr]
              rw [hr] at QR
              clear HT HX HB hr
              go_wp2_with fail
              refine (QR.out _).mono ?_
              rintro e w4 ⟨rfl, rfl⟩
              go_wp2_with fail
              exact end_tok Tryd.results36 rfl rfl (HS.out 1 0 k 0 (strL W)) rfl ⟨rfl, HBS.out 1 0 k 0 (strL W)⟩
            | false =>
              rw [hr] at QR
              by_cases h20 : 20 < k
              · have h20i : (20 : Int) < k := by omega
                obtain rfl : tokBad 4 = T := by rw [← HT.out, if_neg (by rw [hr]; decide), if_pos h20]
                clear HT HX HB hr
                go_wp2_with fail
                refine (QR.out _).mono ?_
                rintro e w4 ⟨rfl, rfl⟩
                go_wp2_with fail
                exact end_tok Tryd.results36 rfl rfl (HS.out 0 0 0 0 { data := #[] }) rfl ⟨rfl, HBS.out 0 0 0 0 { data := #[] }⟩
              · have h20i : ¬ (20 : Int) < k := by omega
                obtain rfl : (⟨2, k, 0, W, 0⟩ : Tok) = T := by rw [← HT.out, if_neg (by rw [hr]; decide), if_neg h20]
                clear HT HX HB hr
                go_wp2_with fail
                refine (QR.out _).mono ?_
                rintro e w4 ⟨rfl, rfl⟩
                go_wp2_with fail
                exact end_tok Tryd.results36 rfl rfl (HS.out 2 0 k 0 (strL W)) rfl ⟨rfl, HBS.out 2 0 k 0 (strL W)⟩
    · have hlti : ¬ (k : Int) < s.size := by omega
      have f0 : decide ((k : Int) < (s.size : Int)) = false := decide_eq_false hlti
      obtain rfl : k = F := by have := HF.out; rw [List.drop_of_length_le (by rw [str_len]; omega)] at this; exact this
      clear HF
      go_wp2_with fail
      refine (QL.out _).mono ?_
      rintro e w3 ⟨rfl, hb⟩
      replace HX := hide (HX.out.kept hb)
      replace HB := hide (Bel.then HB.out hb)
      clear hb QL
      obtain ⟨⟨c0, c1, c2, c3, c4⟩, ⟨y0, y1, y2, y3, y4⟩⟩ := HX.out.all
      have HS := hide (fun (k a s n : Int) (t : ByteArray) => HX.out.set5 k a s n t)
      have HBS := hide (fun (k a s n : Int) (t : ByteArray) => below_set5 HB.out (Nat.le_refl _) (.int .i64 k) (.int .i64 a) (.int .i64 s) (.int .i64 n) (.string t))
      cases hr : resB W with
      | true =>
        obtain rfl : (⟨1, k, 0, W, 0⟩ : Tok) = T := by rw [← HT.out, if_pos hr]
        rw [hr] at QR
        clear HT HX HB hr
        go_wp2_with fail
        refine (QR.out _).mono ?_
        rintro e w4 ⟨rfl, rfl⟩
        go_wp2_with fail
        exact end_tok Tryd.results36 rfl rfl (HS.out 1 0 k 0 (strL W)) rfl ⟨rfl, HBS.out 1 0 k 0 (strL W)⟩
      | false =>
        rw [hr] at QR
        by_cases h20 : 20 < k
        · have h20i : (20 : Int) < k := by omega
          obtain rfl : tokBad 4 = T := by rw [← HT.out, if_neg (by rw [hr]; decide), if_pos h20]
          clear HT HX HB hr
          go_wp2_with fail
          refine (QR.out _).mono ?_
          rintro e w4 ⟨rfl, rfl⟩
          go_wp2_with fail
          exact end_tok Tryd.results36 rfl rfl (HS.out 0 0 0 0 { data := #[] }) rfl ⟨rfl, HBS.out 0 0 0 0 { data := #[] }⟩
        · have h20i : ¬ (20 : Int) < k := by omega
          obtain rfl : (⟨2, k, 0, W, 0⟩ : Tok) = T := by rw [← HT.out, if_neg (by rw [hr]; decide), if_neg h20]
          clear HT HX HB hr
          go_wp2_with fail
          refine (QR.out _).mono ?_
          rintro e w4 ⟨rfl, rfl⟩
          go_wp2_with fail
          exact end_tok Tryd.results36 rfl rfl (HS.out 2 0 k 0 (strL W)) rfl ⟨rfl, HBS.out 2 0 k 0 (strL W)⟩
end Go.Proofs.YtcmhnaanfkpheaaDoor
