/- The contract of the reference's quoted. -/
import Derived.Test.YtcmhnaanfkpheaaDoorLxRa
namespace Go.Proofs.YtcmhnaanfkpheaaDoor
set_option linter.unusedVariables false
open Go.ChangeShapes Go.WideShapes Go.ChangeAt Go.RowKit

set_option maxRecDepth 100000 in
set_option maxHeartbeats 4000000 in
theorem rquoted_c (s : ByteArray) (a : Nat) (w : World) (ha : a < s.size) (hm : s.size ≤ 1048576) : Calls Tryd.prog 28 #[.string s, .int .i64 a] w (GivesTok w (tokName (s.data.toList.drop a)) a) := by
  have hl := str_len s
  obtain ⟨n, hn⟩ : ∃ n, runB (fun c => c != 34) (s.data.toList.drop (a + 1)) = n := ⟨_, rfl⟩
  obtain ⟨nm, hnm⟩ : ∃ nm, (s.data.toList.drop (a + 1)).take n = nm := ⟨_, rfl⟩
  have hT : tokName (s.data.toList.drop a) = if s.size - a ≤ n + 1 then tokBad 3 else if !formB nm then tokBad 2 else if 20 < n then tokBad 4 else ⟨2, n + 2, 0, nm, 0⟩ := by
    unfold tokName
    simp only [List.drop_drop, hn, hnm, List.length_drop, hl]
  obtain ⟨T, hTT⟩ : ∃ T, tokName (s.data.toList.drop a) = T := ⟨_, rfl⟩
  have HT : Hid ((if s.size - a ≤ n + 1 then tokBad 3 else if !formB nm then tokBad 2 else if 20 < n then tokBad 4 else ⟨2, n + 2, 0, nm, 0⟩) = T) := by show _ = _; rw [← hT]; exact hTT
  rw [hTT]
  have HX := hide (tb_new w)
  have HB := hide (Bel.one w tok0)
  have HNM := hide hnm
  obtain ⟨b, hb⟩ : ∃ b, a + 1 = b := ⟨_, rfl⟩
  rw [hb] at hn HNM
  have HF : Hid (b + runB (fun c => c != 34) (s.data.toList.drop b) = b + n) := by show _ = _; rw [hn]
  have f1 : IntKind.i64.wrap ((a : Int) + 1) = (b : Int) := by rw [IntWalk.i64_in _ (by omega)]; omega
  have f1' : ((a : Int) + 1) = (b : Int) := by omega
  have f1w : IntKind.i64.wrap (b : Int) = (b : Int) := IntWalk.i64_in _ (by omega)
  have hbs : b ≤ s.size := by omega
  have QB := hide (fun e W => rbad_c a e W)
  clear hT hn hTT hnm
  go_enter Tryd.func28, Tryd.ntmps28
  go_upto_region 1 with (fail)
  generalize w.alloc (.cells #[.int .i64 0, .int .i64 0, .int .i64 0, .int .i64 0, .string { data := #[] }] 24) = w1 at *
  go_wp2_with fail
  go_loopw [6] (fun kv wr => ∃ k : Nat, kv = .int .i64 k ∧ b ≤ k ∧ k ≤ s.size ∧ Hid (k + runB (fun c => c != 34) (s.data.toList.drop k) = b + n) ∧ Hid (TokBox wr w.heap.size 0 0 0 0 { data := #[] }) ∧ Hid (Below w.heap.size w wr)) (fun kv _ => s.size - (intOf kv).toNat)
  case atStart => exact ⟨b, rfl, Nat.le_refl _, hbs, HF, HX, HB⟩
  case round =>
    clear HF HX HB
    obtain ⟨k, rfl, hbk, hk, HF, HX, HB⟩ := hrel
    by_cases hlt : k < s.size
    · have hlti : (k : Int) < s.size := by omega
      have f0 : decide ((k : Int) < (s.size : Int)) = true := decide_eq_true hlti
      have hd := drop_str hlt
      rw [hd] at HF
      generalize hc : s[k] = c at *
      have hcl := c.toNat_lt
      by_cases h34 : c = 34
      · have q1 : ((c.toNat : Int) == 34) = true := by rw [h34]; rfl
        have q2 : ((c.toNat : Int) != 34) = false := by rw [bne, q1]; rfl
        have hkn : k = b + n := by have := HF.out; rw [run_stop (by rw [h34]; decide)] at this; omega
        have hge : ¬ (s.size : Int) ≤ (k : Int) := by omega
        have hbki : (b : Int) ≤ (k : Int) := by omega
        have hksi : (k : Int) ≤ (s.size : Int) := by omega
        have hex : s.extract b k = strL nm := by rw [strL_extract, ← HNM.out]; congr 2; omega
        have QP := hide (fun W h => rplain_c (strL nm) W h)
        rw [strL_list] at QP
        have hz := strL_size nm
        have hnl : nm.length = n := by rw [← HNM.out, List.length_take, List.length_drop]; omega
        obtain ⟨sa, hsa⟩ : ∃ sa, strL nm = sa := ⟨_, rfl⟩
        have HSA := hide hsa
        rw [hsa] at QP hz hex
        have hsb : sa.size ≤ 1048576 := by omega
        obtain ⟨e, he⟩ : ∃ e, k + 1 = e := ⟨_, rfl⟩
        obtain ⟨z, hzz⟩ : ∃ z, e - a = z := ⟨_, rfl⟩
        have g1 : IntKind.i64.wrap ((k : Int) + 1) = (e : Int) := by rw [IntWalk.i64_in _ (by omega)]; omega
        have g1' : ((k : Int) + 1) = (e : Int) := by omega
        have g2 : IntKind.i64.wrap ((e : Int) - (a : Int)) = (z : Int) := by rw [IntWalk.i64_in _ (by omega)]; omega
        have g2' : ((e : Int) - (a : Int)) = (z : Int) := by omega
        have g3 : IntKind.i64.wrap (e : Int) = (e : Int) := IntWalk.i64_in _ (by omega)
        have g4 : IntKind.i64.wrap (z : Int) = (z : Int) := IntWalk.i64_in _ (by omega)
        have hsn : sa.size = n := by omega
        have hzn : z = n + 2 := by omega
        have hna : ¬ s.size - a ≤ n + 1 := by omega
        have hTa := HT.out
        rw [if_neg hna, ← hzn] at hTa
        have HT2 := hide hTa
        have H20 : Hid (20 < n ↔ (20 : Int) < (sa.size : Int)) := ⟨fun h => by omega, fun h => by omega⟩
        clear HF hd h34 hcl hkn hz hnl hsa he hzz hsn hzn hna hTa HT HNM
        cases hf : formB nm with
        | false =>
          rw [hf] at QP
          obtain rfl : tokBad 2 = T := by rw [← HT2.out, if_pos (by rw [hf]; rfl)]
          clear HT2 hf H20
          go_wp2_with fail
          refine (QP.out _ hsb).mono ?_
          rintro e2 w2 ⟨rfl, rfl⟩
          go_wp2_with fail
          refine (QB.out _ _).mono ?_
          rintro e3 w3 ⟨rfl, hb3⟩
          replace HX := hide (HX.out.kept hb3)
          replace HB := hide (Bel.then HB.out hb3)
          obtain ⟨⟨c0, c1, c2, c3, c4⟩, ⟨y0, y1, y2, y3, y4⟩⟩ := HX.out.all
          have HS := hide (HX.out.set5 0 a 0 0 { data := #[] })
          have HBS := hide (below_set5 HB.out (Nat.le_refl _) (.int .i64 0) (.int .i64 a) (.int .i64 0) (.int .i64 0) (.string { data := #[] }))
          clear hb3 HX HB
          unfold tokAgg
          go_wp2_with fail
          exact end_tok Tryd.results28 rfl rfl HS.out rfl ⟨rfl, HBS.out⟩
        | true =>
          rw [hf] at QP
          by_cases h20 : 20 < n
          · obtain rfl : tokBad 4 = T := by rw [← HT2.out, if_neg (by rw [hf]; decide), if_pos h20]
            have h20i := H20.out.1 h20
            clear HT2 hf H20
            go_wp2_with fail
            refine (QP.out _ hsb).mono ?_
            rintro e2 w2 ⟨rfl, rfl⟩
            go_wp2_with fail
            refine (QB.out _ _).mono ?_
            rintro e3 w3 ⟨rfl, hb3⟩
            replace HX := hide (HX.out.kept hb3)
            replace HB := hide (Bel.then HB.out hb3)
            obtain ⟨⟨c0, c1, c2, c3, c4⟩, ⟨y0, y1, y2, y3, y4⟩⟩ := HX.out.all
            have HS := hide (HX.out.set5 0 a 0 0 { data := #[] })
            have HBS := hide (below_set5 HB.out (Nat.le_refl _) (.int .i64 0) (.int .i64 a) (.int .i64 0) (.int .i64 0) (.string { data := #[] }))
            clear hb3 HX HB
            unfold tokAgg
            go_wp2_with fail
            exact end_tok Tryd.results28 rfl rfl HS.out rfl ⟨rfl, HBS.out⟩
          · obtain rfl : (⟨2, z, 0, nm, 0⟩ : Tok) = T := by rw [← HT2.out, if_neg (by rw [hf]; decide), if_neg h20]
            have h20i : ¬ (20 : Int) < (sa.size : Int) := fun h => h20 (H20.out.2 h)
            obtain ⟨⟨c0, c1, c2, c3, c4⟩, ⟨y0, y1, y2, y3, y4⟩⟩ := HX.out.all
            have HS := hide (HX.out.set5 2 a z 0 sa)
            have HBS := hide (below_set5 HB.out (Nat.le_refl _) (.int .i64 2) (.int .i64 a) (.int .i64 z) (.int .i64 0) (.string sa))
            clear HX HB HT2 hf H20 h20
            go_wp2_with fail
            refine (QP.out _ hsb).mono ?_
            rintro e2 w2 ⟨rfl, rfl⟩
            go_wp2_with fail
            exact end_tok Tryd.results28 rfl rfl HS.out rfl ⟨by rw [← HSA.out]; rfl, HBS.out⟩
      · have q1 : ((c.toNat : Int) == 34) = false := byte_ne c 34 (by decide) h34
        have q2 : ((c.toNat : Int) != 34) = true := by rw [bne, q1]; rfl
        have hwk : IntKind.i64.wrap ((k : Int) + 1) = (k : Int) + 1 := IntWalk.i64_in _ (by omega)
        have HF2 : Hid (k + 1 + runB (fun c => c != 34) (s.data.toList.drop (k + 1)) = b + n) := by have := HF.out; rw [run_cons (by simpa using h34)] at this; show _ = _; omega
        clear HF hd h34 hb
        go_wp2_with fail
        go_roundw
        case rel => exact ⟨k + 1, by go_num, by omega, by omega, HF2, HX, HB⟩
        case measure => simp [intOf]; omega
    · have hlti : ¬ (k : Int) < s.size := by omega
      have f0 : decide ((k : Int) < (s.size : Int)) = false := decide_eq_false hlti
      have hd : s.data.toList.drop k = [] := List.drop_of_length_le (by omega)
      have hkn : k = b + n := by have := HF.out; rw [hd] at this; exact this
      have hge : (s.size : Int) ≤ (k : Int) := by omega
      obtain rfl : tokBad 3 = T := by rw [← HT.out, if_pos (by omega)]
      clear HF hd hkn HT hb HNM
      go_wp2_with fail
      refine (QB.out _ _).mono ?_
      rintro e3 w3 ⟨rfl, hb3⟩
      replace HX := hide (HX.out.kept hb3)
      replace HB := hide (Bel.then HB.out hb3)
      obtain ⟨⟨c0, c1, c2, c3, c4⟩, ⟨y0, y1, y2, y3, y4⟩⟩ := HX.out.all
      have HS := hide (HX.out.set5 0 a 0 0 { data := #[] })
      have HBS := hide (below_set5 HB.out (Nat.le_refl _) (.int .i64 0) (.int .i64 a) (.int .i64 0) (.int .i64 0) (.string { data := #[] }))
      clear hb3 HX HB
      unfold tokAgg
      go_wp2_with fail
      exact end_tok Tryd.results28 rfl rfl HS.out rfl ⟨rfl, HBS.out⟩
end Go.Proofs.YtcmhnaanfkpheaaDoor
