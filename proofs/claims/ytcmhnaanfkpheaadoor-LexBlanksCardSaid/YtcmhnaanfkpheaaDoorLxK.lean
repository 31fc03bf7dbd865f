/- The contract of lex.quoted. -/
import Derived.Test.YtcmhnaanfkpheaaDoorLxJ
namespace Go.Proofs.YtcmhnaanfkpheaaDoor
set_option linter.unusedVariables false
open Go.ChangeShapes Go.WideShapes Go.ChangeAt Go.RowKit

theorem index_run : ∀ l : List UInt8, Lib.indexByte l 34 = if runB (fun c => c != 34) l < l.length then (runB (fun c => c != 34) l : Int) else -1
  | [] => by rw [Lib.indexByte, if_neg (by simp [runB])]
  | c :: l => by
    have ih := index_run l
    by_cases h : c = 34
    · subst h
      rw [run_stop (by decide), if_pos (by simp)]
      simp [Lib.indexByte]
    · have hb : (c == 34) = false := by simpa using h
      have hn : (c != 34) = true := by rw [bne, hb]; rfl
      rw [Lib.indexByte, hb, if_neg (by decide), run_cons (p := fun c => c != 34) hn, List.length_cons]
      by_cases h2 : runB (fun c => c != 34) l < l.length
      · rw [if_pos h2] at ih
        rw [ih, if_neg (by rw [beq_iff_eq]; omega), if_pos (by omega)]
        omega
      · rw [if_neg h2] at ih
        rw [ih, if_pos (by decide), if_neg (by omega)]
theorem strL_extract (s : ByteArray) (i j : Nat) : s.extract i j = strL ((s.data.toList.drop i).take (j - i)) := by
  apply ByteArray.ext
  apply Array.ext'
  rw [ByteArray.data_extract, Array.toList_extract, List.extract_eq_take_drop]
  simp [strL]
set_option maxRecDepth 100000 in
set_option maxHeartbeats 4000000 in
theorem quoted_c (s : ByteArray) (w : World) (h1 : 1 ≤ s.size) (hm : s.size ≤ 1048576) : Calls Tryd.prog 39 #[.string s] w (GivesTok w (tokName s.data.toList) 0) := by
  have hl := str_len s
  obtain ⟨F, hF⟩ : ∃ F, runB (fun c => c != 34) (s.data.toList.drop 1) = F := ⟨_, rfl⟩
  obtain ⟨W, hW⟩ : ∃ W, (s.data.toList.drop 1).take F = W := ⟨_, rfl⟩
  have hT : tokName s.data.toList = if s.size ≤ F + 1 then tokBad 3 else if !formB W then tokBad 2 else if 20 < F then tokBad 4 else ⟨2, F + 2, 0, W, 0⟩ := by unfold tokName; simp only [hF, hW, hl]
  obtain ⟨T, hTT⟩ : ∃ T, tokName s.data.toList = T := ⟨_, rfl⟩
  have HT : Hid ((if s.size ≤ F + 1 then tokBad 3 else if !formB W then tokBad 2 else if 20 < F then tokBad 4 else ⟨2, F + 2, 0, W, 0⟩) = T) := by show _ = _; rw [← hT]; exact hTT
  rw [hTT]
  have QI := hide (fun W => Tryd.strings_IndexByte (s.extract 1 s.size) 34 W)
  have e34 : ((34 : Int).toNat.toUInt8) = 34 := rfl
  rw [e34, index_run, extract_drop, hF, List.length_drop, hl] at QI
  have hWs : s.extract 1 (F + 1) = strL W := by rw [strL_extract, ← hW]; rfl
  have QF := hide (fun w (h : (strL W).size ≤ 1048576) => form_c (strL W) w h)
  rw [strL_list] at QF
  have h1i : (1 : Int) ≤ s.size := by omega
  have f1 : IntKind.i64.wrap ((1 : Int) + (F : Int)) = ((F + 1 : Nat) : Int) := by rw [IntWalk.i64_in _ (by have := run_le (fun c => c != 34) (s.data.toList.drop 1); rw [hF, List.length_drop, hl] at this; omega)]; omega
  have f2 : IntKind.i64.wrap ((F : Int) + 2) = ((F + 2 : Nat) : Int) := by rw [IntWalk.i64_in _ (by have := run_le (fun c => c != 34) (s.data.toList.drop 1); rw [hF, List.length_drop, hl] at this; omega)]; omega
  have HX := hide (tb_new w)
  have HB := hide (Bel.one w tok0)
  clear hT hF hTT e34
  by_cases hlt : F < s.size - 1
  · rw [if_pos hlt] at QI
    have hF1 : F + 1 ≤ s.size := by omega
    have hsz : (strL W).size ≤ 1048576 := by rw [← hWs, ByteArray.size_extract]; omega
    obtain ⟨n1, hn1⟩ : ∃ n1, F + 1 = n1 := ⟨_, rfl⟩
    rw [hn1] at f1 hWs
    have g1 : (1 : Int) ≤ (n1 : Int) := by omega
    have g2 : (n1 : Int) ≤ s.size := by omega
    have g3 : 1 ≤ n1 := by omega
    have g4 : n1 ≤ s.size := by omega
    have g0 : (0 : Int) ≤ (F : Int) := by omega
    go_enter Tryd.func39, Tryd.ntmps39
    go_upto_region 1 with (fail)
    generalize w.alloc (.cells #[.int .i64 0, .int .i64 0, .int .i64 0, .int .i64 0, .string { data := #[] }] 24) = w1 at *
    go_wp2_with fail
    refine (QI.out _).mono ?_
    rintro e w2 ⟨rfl, rfl⟩
    go_wp2_with fail
    refine (QF.out _ hsz).mono ?_
    rintro e w3 ⟨rfl, hb⟩
    replace HX := hide (HX.out.kept hb)
    replace HB := hide (Bel.then HB.out hb)
    clear hb
    obtain ⟨⟨c0, c1, c2, c3, c4⟩, ⟨y0, y1, y2, y3, y4⟩⟩ := HX.out.all
    have HS := hide (fun (k a s n : Int) (t : ByteArray) => HX.out.set5 k a s n t)
    have HBS := hide (fun (k a s n : Int) (t : ByteArray) => below_set5 HB.out (Nat.le_refl _) (.int .i64 k) (.int .i64 a) (.int .i64 s) (.int .i64 n) (.string t))
    have hT3 : ¬ s.size ≤ F + 1 := by omega
    cases hf : formB W with
    | false =>
      obtain rfl : tokBad 2 = T := by rw [← HT.out, if_neg hT3, if_pos (by rw [hf]; rfl)]
      clear HT HX HB
      go_wp2_with fail
      exact end_tok Tryd.results39 rfl rfl (HS.out 0 0 0 0 { data := #[] }) rfl ⟨rfl, HBS.out 0 0 0 0 { data := #[] }⟩
    | true =>
      by_cases h20 : 20 < F
      · have h20i : (20 : Int) < F := by omega
        obtain rfl : tokBad 4 = T := by rw [← HT.out, if_neg hT3, if_neg (by rw [hf]; decide), if_pos h20]
        clear HT HX HB
        go_wp2_with fail
        exact end_tok Tryd.results39 rfl rfl (HS.out 0 0 0 0 { data := #[] }) rfl ⟨rfl, HBS.out 0 0 0 0 { data := #[] }⟩
      · have h20i : ¬ (20 : Int) < F := by omega
        obtain rfl : (⟨2, F + 2, 0, W, 0⟩ : Tok) = T := by rw [← HT.out, if_neg hT3, if_neg (by rw [hf]; decide), if_neg h20]
        clear HT HX HB
        go_wp2_with fail
        exact end_tok Tryd.results39 rfl rfl (HS.out 2 0 (F + 2 : Nat) 0 (strL W)) rfl ⟨rfl, HBS.out 2 0 (F + 2 : Nat) 0 (strL W)⟩
  · rw [if_neg hlt] at QI
    obtain rfl : tokBad 3 = T := by rw [← HT.out, if_pos (by omega)]
    clear hlt
    go_enter Tryd.func39, Tryd.ntmps39
    go_upto_region 1 with (fail)
    generalize w.alloc (.cells #[.int .i64 0, .int .i64 0, .int .i64 0, .int .i64 0, .string { data := #[] }] 24) = w1 at *
    obtain ⟨⟨c0, c1, c2, c3, c4⟩, ⟨y0, y1, y2, y3, y4⟩⟩ := HX.out.all
    have HS := hide (fun (k a s n : Int) (t : ByteArray) => HX.out.set5 k a s n t)
    have HBS := hide (fun (k a s n : Int) (t : ByteArray) => below_set5 HB.out (Nat.le_refl _) (.int .i64 k) (.int .i64 a) (.int .i64 s) (.int .i64 n) (.string t))
    clear HT HX HB
    go_wp2_with fail
    refine (QI.out _).mono ?_
    rintro e w2 ⟨rfl, rfl⟩
    go_wp2_with fail
    exact end_tok Tryd.results39 rfl rfl (HS.out 0 0 0 0 { data := #[] }) rfl ⟨rfl, HBS.out 0 0 0 0 { data := #[] }⟩
end Go.Proofs.YtcmhnaanfkpheaaDoor
