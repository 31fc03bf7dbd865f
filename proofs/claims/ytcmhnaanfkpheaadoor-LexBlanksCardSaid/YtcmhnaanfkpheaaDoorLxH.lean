/- The contract of the reference's number. -/
import Derived.Test.YtcmhnaanfkpheaaDoorLxG
namespace Go.Proofs.YtcmhnaanfkpheaaDoor
set_option linter.unusedVariables false
open Go.ChangeShapes Go.WideShapes Go.ChangeAt Go.RowKit

/-- The reference's value and the one that is capped. -/
def Capped (x m : Nat) : Prop := (x = m ∧ m ≤ 1000000000000000) ∨ (1000000000000000 < x ∧ x ≤ 10000000000000009 ∧ 1000000000000000 < m)
set_option maxRecDepth 100000 in
set_option maxHeartbeats 4000000 in
theorem rnumber_c (s : ByteArray) (a : Nat) (w : World) (ha : a ≤ s.size) (hm : s.size ≤ 1048576) : Calls Tryd.prog 27 #[.string s, .int .i64 a] w (GivesTok w (tokNum (s.data.toList.drop a)) a) := by
  have hl := str_len s
  obtain ⟨F, hF⟩ : ∃ F, runB digB (s.data.toList.drop a) = F := ⟨_, rfl⟩
  obtain ⟨V, hV⟩ : ∃ V, numB8 0 (s.data.toList.drop a) = V := ⟨_, rfl⟩
  have hT : tokNum (s.data.toList.drop a) = if 1000000000000000 < V then tokBad 4 else ⟨3, F, V, [], 0⟩ := by unfold tokNum; rw [hF, hV]
  obtain ⟨T, hTT⟩ : ∃ T, tokNum (s.data.toList.drop a) = T := ⟨_, rfl⟩
  have HT : Hid ((if 1000000000000000 < V then tokBad 4 else ⟨3, F, V, [], 0⟩) = T) := by show _ = _; rw [← hT]; exact hTT
  rw [hTT]
  have HX := hide (tb_new w)
  have HB := hide (Bel.one w tok0)
  have HF : Hid (a + runB digB (s.data.toList.drop a) = a + F) := by show _ = _; rw [hF]
  have HV : Hid (numB8 0 (s.data.toList.drop a) = V) := hV
  have QB := hide (fun W => rbad_c a 4 W)
  clear hT hF hV hTT
  go_enter Tryd.func27, Tryd.ntmps27
  go_upto_region 1 with (fail)
  generalize w.alloc (.cells #[.int .i64 0, .int .i64 0, .int .i64 0, .int .i64 0, .string { data := #[] }] 24) = w1 at *
  go_wp2_with fail
  go_loopw [6, 7] (fun kv v wr => ∃ x m k : Nat, v = .int .i64 x ∧ kv = .int .i64 k ∧ a ≤ k ∧ k ≤ s.size ∧ m ≤ 1000000000000001 ∧ Hid (Capped x m) ∧ Hid (k + runB digB (s.data.toList.drop k) = a + F) ∧ Hid (numB8 m (s.data.toList.drop k) = V) ∧ Hid (TokBox wr w.heap.size 0 0 0 0 { data := #[] }) ∧ Hid (Below w.heap.size w wr)) (fun kv _ _ => s.size - (intOf kv).toNat)
  case atStart => exact ⟨0, 0, a, rfl, rfl, Nat.le_refl _, ha, Nat.zero_le _, .inl ⟨rfl, Nat.zero_le _⟩, HF, HV, HX, HB⟩
  case round =>
    clear HF HV HX HB
    obtain ⟨x, m, k, rfl, rfl, hak, hk, hmm, HC, HF, HV, HX, HB⟩ := hrel
    have hxb : x ≤ 10000000000000009 := by rcases HC.out with ⟨h1, h2⟩ | ⟨h1, h2, h3⟩ <;> omega
    have hdone : (∀ (_ : runB digB (s.data.toList.drop k) = 0) (_ : numB8 m (s.data.toList.drop k) = m), k = a + F ∧ m = V) := fun h1 h2 => by
      have e1 := HF.out
      have e2 := HV.out
      rw [h1] at e1
      rw [h2] at e2
      exact ⟨by omega, e2⟩
    by_cases hlt : k < s.size
    · have hlti : (k : Int) < s.size := by omega
      have f0 : decide ((k : Int) < (s.size : Int)) = true := decide_eq_true hlti
      have hwk : IntKind.i64.wrap ((k : Int) + 1) = (k : Int) + 1 := IntWalk.i64_in _ (by omega)
      have hd := drop_str hlt
      rw [hd] at HF HV hdone
      generalize hc : s[k] = c at *
      have hcl := c.toNat_lt
      have Q := hide (fun W => rdigit_c c.toNat W)
      rw [dig_byte] at Q
      cases hx : digB c with
      | true =>
        obtain ⟨r1, r2⟩ := dig_range hx
        rw [hx] at Q
        rw [run_cons hx] at HF
        rw [num_step hx] at HV
        have HF2 : Hid (k + 1 + runB digB (s.data.toList.drop (k + 1)) = a + F) := by have := HF.out; show _ = _; omega
        by_cases hsm : x ≤ 1000000000000000
        · have hsmi : (x : Int) ≤ 1000000000000000 := by omega
          have hxm : x = m := by rcases HC.out with ⟨h1, h2⟩ | ⟨h1, h2, h3⟩ <;> omega
          obtain ⟨q, hq⟩ : ∃ q, x * 10 = q := ⟨_, rfl⟩
          obtain ⟨p, hp⟩ : ∃ p, q + c.toNat = p := ⟨_, rfl⟩
          obtain ⟨y, hy⟩ : ∃ y, p - 48 = y := ⟨_, rfl⟩
          have f1 : IntKind.i64.wrap (10 * (x : Int)) = (q : Int) := by rw [IntWalk.i64_in _ (by omega)]; omega
          have f1' : (10 * (x : Int)) = (q : Int) := by omega
          have f2 : IntKind.i64.wrap ((q : Int) + (c.toNat : Int)) = (p : Int) := by rw [IntWalk.i64_in _ (by omega)]; omega
          have f2' : ((q : Int) + (c.toNat : Int)) = (p : Int) := by omega
          have f3 : IntKind.i64.wrap ((p : Int) - 48) = (y : Int) := by rw [IntWalk.i64_in _ (by omega)]; omega
          have f3' : ((p : Int) - 48) = (y : Int) := by omega
          have f4 : IntKind.i64.wrap (q : Int) = (q : Int) := IntWalk.i64_in _ (by omega)
          have f5 : IntKind.i64.wrap (p : Int) = (p : Int) := IntWalk.i64_in _ (by omega)
          have f6 : IntKind.i64.wrap (y : Int) = (y : Int) := IntWalk.i64_in _ (by omega)
          have f7 : IntKind.i64.wrap (c.toNat : Int) = (c.toNat : Int) := IntWalk.i64_in _ (by omega)
          have hCap : Hid (Capped y (min (m * 10 + (c.toNat - 48)) 1000000000000001)) := by
            show Capped _ _
            unfold Capped
            omega
          have hmb : min (m * 10 + (c.toNat - 48)) 1000000000000001 ≤ 1000000000000001 := Nat.min_le_right _ _
          generalize min (m * 10 + (c.toNat - 48)) 1000000000000001 = m2 at *
          clear hq hp hy HF hd hdone hx HC hxm
          go_wp2_with fail
          refine (Q.out _).mono ?_
          rintro e w2 ⟨rfl, rfl⟩
          go_wp2_with fail
          go_roundw
          case rel => exact ⟨y, m2, k + 1, rfl, by go_num, by omega, by omega, hmb, hCap, HF2, HV, HX, HB⟩
          case measure => simp [intOf]; omega
        · have hsmi : ¬ (x : Int) ≤ 1000000000000000 := by omega
          have hCap : Hid (Capped x (min (m * 10 + (c.toNat - 48)) 1000000000000001)) := by
            have := HC.out
            unfold Capped at this
            show Capped _ _
            unfold Capped
            omega
          have hmb : min (m * 10 + (c.toNat - 48)) 1000000000000001 ≤ 1000000000000001 := Nat.min_le_right _ _
          generalize min (m * 10 + (c.toNat - 48)) 1000000000000001 = m2 at *
          clear HF hd hdone hx HC
          go_wp2_with fail
          refine (Q.out _).mono ?_
          rintro e w2 ⟨rfl, rfl⟩
          go_wp2_with fail
          go_roundw
          case rel => exact ⟨x, m2, k + 1, rfl, by go_num, by omega, by omega, hmb, hCap, HF2, HV, HX, HB⟩
          case measure => simp [intOf]; omega
      | false =>
        rw [hx] at Q
        obtain ⟨hkF, hmV⟩ := hdone (run_stop hx) (num_stop hx)
        clear hd hx hdone
        obtain ⟨z, hz⟩ : ∃ z, k - a = z := ⟨_, rfl⟩
        have g1 : IntKind.i64.wrap ((k : Int) - (a : Int)) = (z : Int) := by rw [IntWalk.i64_in _ (by omega)]; omega
        have g2 : ((k : Int) - (a : Int)) = (z : Int) := by omega
        have g3 : IntKind.i64.wrap (z : Int) = (z : Int) := IntWalk.i64_in _ (by omega)
        have hzF : z = F := by omega
        clear hz HF HV hkF
        by_cases hv : 1000000000000000 < x
        · have hvi : (1000000000000000 : Int) < x := by omega
          obtain rfl : tokBad 4 = T := by rw [← HT.out, if_pos (by have := HC.out; unfold Capped at this; omega)]
          clear hmV hzF HT HC
          go_wp2_with fail
          refine (Q.out _).mono ?_
          rintro e w2 ⟨rfl, rfl⟩
          go_wp2_with fail
          refine (QB.out _).mono ?_
          rintro e w3 ⟨rfl, hb⟩
          replace HX := hide (HX.out.kept hb)
          replace HB := hide (Bel.then HB.out hb)
          obtain ⟨⟨c0, c1, c2, c3, c4⟩, ⟨y0, y1, y2, y3, y4⟩⟩ := HX.out.all
          have HS := hide (HX.out.set5 0 a 0 0 { data := #[] })
          have HBS := hide (below_set5 HB.out (Nat.le_refl _) (.int .i64 0) (.int .i64 a) (.int .i64 0) (.int .i64 0) (.string { data := #[] }))
          clear hb HX HB
          unfold tokAgg
          go_wp2_with fail
          exact end_tok Tryd.results27 rfl rfl HS.out rfl ⟨rfl, HBS.out⟩
        · have hvi : ¬ (1000000000000000 : Int) < x := by omega
          obtain rfl : (⟨3, z, x, [], 0⟩ : Tok) = T := by
            have := HC.out
            unfold Capped at this
            have e : x = V := by omega
            rw [← HT.out, if_neg (by omega), hzF, e]
          clear hmV hzF HT HC
          obtain ⟨⟨c0, c1, c2, c3, c4⟩, ⟨y0, y1, y2, y3, y4⟩⟩ := HX.out.all
          have HS := hide (HX.out.set5 3 a z x { data := #[] })
          have HBS := hide (below_set5 HB.out (Nat.le_refl _) (.int .i64 3) (.int .i64 a) (.int .i64 z) (.int .i64 x) (.string { data := #[] }))
          clear HX HB
          go_wp2_with fail
          refine (Q.out _).mono ?_
          rintro e w2 ⟨rfl, rfl⟩
          go_wp2_with fail
          exact end_tok Tryd.results27 rfl rfl HS.out rfl ⟨rfl, HBS.out⟩
    · have hlti : ¬ (k : Int) < s.size := by omega
      have f0 : decide ((k : Int) < (s.size : Int)) = false := decide_eq_false hlti
      have hd : s.data.toList.drop k = [] := List.drop_of_length_le (by omega)
      rw [hd] at hdone
      obtain ⟨hkF, hmV⟩ := hdone rfl rfl
      clear hd hdone
      obtain ⟨z, hz⟩ : ∃ z, k - a = z := ⟨_, rfl⟩
      have g1 : IntKind.i64.wrap ((k : Int) - (a : Int)) = (z : Int) := by rw [IntWalk.i64_in _ (by omega)]; omega
      have g2 : ((k : Int) - (a : Int)) = (z : Int) := by omega
      have g3 : IntKind.i64.wrap (z : Int) = (z : Int) := IntWalk.i64_in _ (by omega)
      have hzF : z = F := by omega
      clear hz HF HV hkF
      by_cases hv : 1000000000000000 < x
      · have hvi : (1000000000000000 : Int) < x := by omega
        obtain rfl : tokBad 4 = T := by rw [← HT.out, if_pos (by have := HC.out; unfold Capped at this; omega)]
        clear hmV hzF HT HC
        go_wp2_with fail
        refine (QB.out _).mono ?_
        rintro e w3 ⟨rfl, hb⟩
        replace HX := hide (HX.out.kept hb)
        replace HB := hide (Bel.then HB.out hb)
        obtain ⟨⟨c0, c1, c2, c3, c4⟩, ⟨y0, y1, y2, y3, y4⟩⟩ := HX.out.all
        have HS := hide (HX.out.set5 0 a 0 0 { data := #[] })
        have HBS := hide (below_set5 HB.out (Nat.le_refl _) (.int .i64 0) (.int .i64 a) (.int .i64 0) (.int .i64 0) (.string { data := #[] }))
        clear hb HX HB
        unfold tokAgg
        go_wp2_with fail
        exact end_tok Tryd.results27 rfl rfl HS.out rfl ⟨rfl, HBS.out⟩
      · have hvi : ¬ (1000000000000000 : Int) < x := by omega
        obtain rfl : (⟨3, z, x, [], 0⟩ : Tok) = T := by
          have := HC.out
          unfold Capped at this
          have e : x = V := by omega
          rw [← HT.out, if_neg (by omega), hzF, e]
        clear hmV hzF HT HC
        obtain ⟨⟨c0, c1, c2, c3, c4⟩, ⟨y0, y1, y2, y3, y4⟩⟩ := HX.out.all
        have HS := hide (HX.out.set5 3 a z x { data := #[] })
        have HBS := hide (below_set5 HB.out (Nat.le_refl _) (.int .i64 3) (.int .i64 a) (.int .i64 z) (.int .i64 x) (.string { data := #[] }))
        clear HX HB
        go_wp2_with fail
        exact end_tok Tryd.results27 rfl rfl HS.out rfl ⟨rfl, HBS.out⟩
end Go.Proofs.YtcmhnaanfkpheaaDoor
