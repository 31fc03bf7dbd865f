/- The contract of the reference's text. -/
import Derived.Test.YtcmhnaanfkpheaaDoorLxRa
namespace Go.Proofs.YtcmhnaanfkpheaaDoor
set_option linter.unusedVariables false
open Go.ChangeShapes Go.WideShapes Go.ChangeAt Go.RowKit

/-- What one makes of a text's end. -/
def tokTextR (R : Option (Nat × List UInt8)) : Tok :=
  match R with
  | none => tokBad 3
  | some (n, t) => if !(t.all plainB) then tokBad 2 else if 100 < t.length then tokBad 4 else ⟨4, n + 2, 0, t, 0⟩
theorem tokText_R (l : List UInt8) : tokText l = tokTextR (textS (l.drop 1)) := rfl
/-- A text read so far. -/
def TextAt (l : List UInt8) (b k : Nat) (acc : List UInt8) (R : Option (Nat × List UInt8)) : Prop := (textS (l.drop k)).map (fun p => (p.1 + (k - b), acc ++ p.2)) = R
section
variable {l acc : List UInt8} {b k : Nat} {R : Option (Nat × List UInt8)}
theorem textAt_start (h : textS (l.drop b) = R) : TextAt l b b [] R := by
  unfold TextAt
  rw [h]
  cases R with
  | none => rfl
  | some p => simp
theorem textAt_one {c : UInt8} (h : TextAt l b k acc R) (hb : b ≤ k) (hd : l.drop k = c :: l.drop (k + 1)) (hc : c ≠ 39) : TextAt l b (k + 1) (acc ++ [c]) R := by
  unfold TextAt at h ⊢
  rw [hd, textS_skip _ hc, Option.map_map] at h
  rw [← h]
  congr 1
  funext p
  simp only [Function.comp]
  rw [show p.1 + (k + 1 - b) = p.1 + 1 + (k - b) from by omega]
  simp
theorem textAt_two (h : TextAt l b k acc R) (hb : b ≤ k) (hd : l.drop k = 39 :: l.drop (k + 1)) (hd2 : l.drop (k + 1) = 39 :: l.drop (k + 2)) : TextAt l b (k + 2) (acc ++ [39]) R := by
  unfold TextAt at h ⊢
  rw [hd, hd2, textS, if_pos (by decide), if_pos (by decide), Option.map_map] at h
  rw [← h]
  congr 1
  funext p
  simp only [Function.comp]
  rw [show p.1 + (k + 2 - b) = p.1 + 2 + (k - b) from by omega]
  simp
theorem textAt_here (h : TextAt l b k acc R) (hd : l.drop k = 39 :: l.drop (k + 1)) (hd2 : (l.drop (k + 1)).head? ≠ some 39) : R = some (k - b, acc) := by
  unfold TextAt at h
  rw [hd, textS_end hd2] at h
  rw [← h]
  simp
theorem textAt_none (h : TextAt l b k acc R) (hk : l.length ≤ k) : R = none := by
  unfold TextAt at h
  rw [List.drop_of_length_le hk, textS] at h
  exact h.symm
end
theorem plain_app (acc : List UInt8) (c : UInt8) : (acc ++ [c]).all plainB = (acc.all plainB && plainB c) := by simp [List.all_append]
set_option maxRecDepth 100000 in
set_option maxHeartbeats 8000000 in
theorem rtext_c (s : ByteArray) (a : Nat) (w : World) (ha : a < s.size) (hm : s.size ≤ 1048576) : Calls Tryd.prog 29 #[.string s, .int .i64 a] w (GivesTok w (tokText (s.data.toList.drop a)) a) := by
  have hl := str_len s
  rw [tokText_R, List.drop_drop]
  obtain ⟨R, hR⟩ : ∃ R, textS (s.data.toList.drop (a + 1)) = R := ⟨_, rfl⟩
  rw [hR]
  obtain ⟨T, hTT⟩ : ∃ T, tokTextR R = T := ⟨_, rfl⟩
  rw [hTT]
  have HT := hide hTT
  have HX0 := hide (tb_new w)
  have HB0 := hide (Bel.one w tok0)
  obtain ⟨b, hb⟩ : ∃ b, a + 1 = b := ⟨_, rfl⟩
  rw [hb] at hR
  have HA0 := hide (textAt_start hR)
  have f1 : IntKind.i64.wrap ((a : Int) + 1) = (b : Int) := by rw [IntWalk.i64_in _ (by omega)]; omega
  have f1' : ((a : Int) + 1) = (b : Int) := by omega
  have hbs : b ≤ s.size := by omega
  have hab : a < b := by omega
  have hab2 : Hid (a + 1 = b) := hb
  have QB := hide (fun e W => rbad_c a e W)
  clear hTT hR hb
  go_enter Tryd.func29, Tryd.ntmps29
  go_upto_region 1 with (fail)
  generalize w.alloc (.cells #[.int .i64 0, .int .i64 0, .int .i64 0, .int .i64 0, .string { data := #[] }] 24) = w1 at *
  go_wp2_with fail
  go_loopw [6, 7, 8] (fun kv wv gv wr => ∃ (k : Nat) (acc : List UInt8) (g : Bool), kv = .int .i64 k ∧ wv = .string (strL acc) ∧ gv = .bool g ∧ b ≤ k ∧ k ≤ s.size ∧ acc.length ≤ k ∧ Hid (acc.all plainB = g) ∧ Hid (TextAt s.data.toList b k acc R) ∧ Hid (TokBox wr w.heap.size 0 0 0 0 { data := #[] }) ∧ Hid (Below w.heap.size w wr)) (fun kv _ _ _ => s.size - (intOf kv).toNat)
  case atStart => exact ⟨b, [], true, rfl, rfl, rfl, Nat.le_refl _, hbs, Nat.zero_le _, rfl, HA0, HX0, HB0⟩
  case round =>
    clear HX0 HB0 HA0
    obtain ⟨k, acc, g, rfl, rfl, rfl, hbk, hk, hak, HG, HA, HX, HB⟩ := hrel
    by_cases hlt : k < s.size
    · have hlti : (k : Int) < s.size := by omega
      have f0 : decide ((k : Int) < (s.size : Int)) = true := decide_eq_true hlti
      have hd := drop_str hlt
      obtain ⟨j, hj⟩ : ∃ j, k + 1 = j := ⟨_, rfl⟩
      have g1 : IntKind.i64.wrap ((k : Int) + 1) = (j : Int) := by rw [IntWalk.i64_in _ (by omega)]; omega
      have g1' : ((k : Int) + 1) = (j : Int) := by omega
      have g1w : IntKind.i64.wrap (j : Int) = (j : Int) := IntWalk.i64_in _ (by omega)
      have hge : ¬ (s.size : Int) ≤ (k : Int) := by omega
      generalize hc : s[k] = c at *
      have hcl := c.toNat_lt
      by_cases h39 : c = 39
      · have q1 : ((c.toNat : Int) == 39) = true := by rw [h39]; rfl
        have q2 : ((c.toNat : Int) != 39) = false := by rw [bne, q1]; rfl
        by_cases hlt2 : j < s.size
        · have hlt2i : (j : Int) < s.size := by omega
          have f2 : decide ((j : Int) < (s.size : Int)) = true := decide_eq_true hlt2i
          have hd2 := drop_str hlt2
          generalize hc2 : s[j] = d at *
          have hdl := d.toNat_lt
          by_cases hd39 : d = 39
          · have r1 : ((d.toNat : Int) == 39) = true := by rw [hd39]; rfl
            have r2 : ((d.toNat : Int) != 39) = false := by rw [bne, r1]; rfl
            obtain ⟨i, hi⟩ : ∃ i, j + 1 = i := ⟨_, rfl⟩
            have g2 : IntKind.i64.wrap ((j : Int) + 1) = (i : Int) := by rw [IntWalk.i64_in _ (by omega)]; omega
            have g2' : ((j : Int) + 1) = (i : Int) := by omega
            have g2w : IntKind.i64.wrap (i : Int) = (i : Int) := IntWalk.i64_in _ (by omega)
            have HA2 : Hid (TextAt s.data.toList b i (acc ++ [39]) R) := by
              have := textAt_two HA.out hbk (by rw [hd, h39]) (by rw [hj, hd2, hd39]; congr 2; omega)
              rw [show k + 2 = i from by omega] at this
              exact this
            have HG2 : Hid ((acc ++ [39]).all plainB = g) := by
              show _ = _
              rw [plain_app, HG.out]
              exact Bool.and_true g
            have hex : s.extract j i = strL [39] := by rw [strL_extract, hd2, hd39, ← hi, Nat.add_sub_cancel_left]; rfl
            have b1 : j ≤ i := by omega
            have b2 : i ≤ s.size := by omega
            have b3 : (j : Int) ≤ (i : Int) := by omega
            have b4 : (i : Int) ≤ (s.size : Int) := by omega
            have p1 : (32 : Int) ≤ (d.toNat : Int) := by rw [hd39]; decide
            have p2 : (d.toNat : Int) ≤ 126 := by rw [hd39]; decide
            have hac : (acc ++ [(39 : UInt8)]).length ≤ i := by rw [List.length_append, List.length_singleton]; omega
            cases g with
            | false =>
              have H2 := hide (strL_app acc [39])
              have hz1 := strL_size acc
              have hz2 : (strL [39]).size = 1 := strL_size _
              have ha1 : ((strL acc).size : Int) ≤ 1048576 := by omega
              have ha2 : ((strL [39]).size : Int) ≤ 1 := by omega
              obtain ⟨u, hu⟩ : ∃ u, strL [39] = u := ⟨_, rfl⟩
              obtain ⟨sa, hsa⟩ : ∃ sa, strL acc = sa := ⟨_, rfl⟩
              rw [hu] at hex H2 ha2
              rw [hsa] at ha1 H2 ⊢
              have hmi : s.size - i < s.size - k := by omega
              have hbi : b ≤ i := by omega
              clear hd hd2 hi hj h39 hd39 hz1 hz2 hu hsa HA HG
              go_wp2_with fail
              go_roundw
              case rel => exact ⟨i, acc ++ [39], false, rfl, by rw [H2.out], rfl, hbi, b2, hac, HG2, HA2, HX, HB⟩
              case measure => simpa [intOf] using hmi
            | true =>
              have H2 := hide (strL_app acc [39])
              have hz1 := strL_size acc
              have hz2 : (strL [39]).size = 1 := strL_size _
              have ha1 : ((strL acc).size : Int) ≤ 1048576 := by omega
              have ha2 : ((strL [39]).size : Int) ≤ 1 := by omega
              obtain ⟨u, hu⟩ : ∃ u, strL [39] = u := ⟨_, rfl⟩
              obtain ⟨sa, hsa⟩ : ∃ sa, strL acc = sa := ⟨_, rfl⟩
              rw [hu] at hex H2 ha2
              rw [hsa] at ha1 H2 ⊢
              have hmi : s.size - i < s.size - k := by omega
              have hbi : b ≤ i := by omega
              clear hd hd2 hi hj h39 hd39 hz1 hz2 hu hsa HA HG
              go_wp2_with fail
              go_roundw
              case rel => exact ⟨i, acc ++ [39], true, rfl, by rw [H2.out], rfl, hbi, b2, hac, HG2, HA2, HX, HB⟩
              case measure => simpa [intOf] using hmi
          · have r1 : ((d.toNat : Int) == 39) = false := byte_ne d 39 (by decide) hd39
            have r2 : ((d.toNat : Int) != 39) = true := by rw [bne, r1]; rfl
            obtain rfl : R = some (k - b, acc) := textAt_here HA.out (by rw [hd, h39]) (by rw [hj, hd2]; simpa using hd39)
            clear hd2 hdl hd39
            obtain ⟨z, hzz⟩ : ∃ z, j - a = z := ⟨_, rfl⟩
            have g5 : IntKind.i64.wrap ((j : Int) - (a : Int)) = (z : Int) := by rw [IntWalk.i64_in _ (by omega)]; omega
            have g5' : ((j : Int) - (a : Int)) = (z : Int) := by omega
            have g5w : IntKind.i64.wrap (z : Int) = (z : Int) := IntWalk.i64_in _ (by omega)
            have hz := strL_size acc
            have hzk : k - b + 2 = z := by have := hab2.out; omega
            have HT2 : Hid ((if !g then tokBad 2 else if 100 < acc.length then tokBad 4 else ⟨4, z, 0, acc, 0⟩) = T) := by
              have := HT.out
              unfold tokTextR at this
              simp only at this
              rw [HG.out, hzk] at this
              exact this
            obtain ⟨sa, hsa⟩ : ∃ sa, strL acc = sa := ⟨_, rfl⟩
            have HSA := hide hsa
            rw [hsa] at hz ⊢
            have H100 : Hid (100 < acc.length ↔ (100 : Int) < (sa.size : Int)) := ⟨fun h => by omega, fun h => by omega⟩
            have hsb : (sa.size : Int) ≤ 1048576 := by omega
            clear HT HG HA hd hcl h39 hzz hz hzk hsa hj
            cases g with
            | false =>
              obtain rfl : tokBad 2 = T := HT2.out
              clear HT2 H100
              go_wp2_with fail
              refine (QB.out _ _).mono ?_
              rintro e3 w3 ⟨rfl, hb3⟩
              replace HX := hide (HX.out.kept hb3)
              replace HB := hide (Bel.then HB.out hb3)
              obtain ⟨⟨c0, c1, c2, c3, c4⟩, ⟨y0, y1, y2, y3, y4⟩⟩ := HX.out.all
              have HS := hide (HX.out.set5 0 a 0 0 { data := #[] })
              have HBS := hide (below_set5 HB.out (Nat.le_refl _) (.int .i64 0) (.int .i64 a) (.int .i64 0) (.int .i64 0) (.string { data := #[] }))
              clear hb3 HX HB
              unfold tokAgg
              go_wp2_with fail
              exact end_tok Tryd.results29 rfl rfl HS.out rfl ⟨rfl, HBS.out⟩
            | true =>
              by_cases h100 : 100 < acc.length
              · obtain rfl : tokBad 4 = T := by rw [← HT2.out, if_neg (by decide), if_pos h100]
                have h100i := H100.out.1 h100
                clear HT2 H100 h100
                go_wp2_with fail
                refine (QB.out _ _).mono ?_
                rintro e3 w3 ⟨rfl, hb3⟩
                replace HX := hide (HX.out.kept hb3)
                replace HB := hide (Bel.then HB.out hb3)
                obtain ⟨⟨c0, c1, c2, c3, c4⟩, ⟨y0, y1, y2, y3, y4⟩⟩ := HX.out.all
                have HS := hide (HX.out.set5 0 a 0 0 { data := #[] })
                have HBS := hide (below_set5 HB.out (Nat.le_refl _) (.int .i64 0) (.int .i64 a) (.int .i64 0) (.int .i64 0) (.string { data := #[] }))
                clear hb3 HX HB
                unfold tokAgg
                go_wp2_with fail
                exact end_tok Tryd.results29 rfl rfl HS.out rfl ⟨rfl, HBS.out⟩
              · obtain rfl : (⟨4, z, 0, acc, 0⟩ : Tok) = T := by rw [← HT2.out, if_neg (by decide), if_neg h100]
                have h100i : ¬ (100 : Int) < (sa.size : Int) := fun h => h100 (H100.out.2 h)
                obtain ⟨⟨c0, c1, c2, c3, c4⟩, ⟨y0, y1, y2, y3, y4⟩⟩ := HX.out.all
                have HS := hide (HX.out.set5 4 a z 0 sa)
                have HBS := hide (below_set5 HB.out (Nat.le_refl _) (.int .i64 4) (.int .i64 a) (.int .i64 z) (.int .i64 0) (.string sa))
                clear HX HB HT2 H100 h100
                go_wp2_with fail
                exact end_tok Tryd.results29 rfl rfl HS.out rfl ⟨by rw [← HSA.out]; rfl, HBS.out⟩
        · have hlt2i : ¬ (j : Int) < s.size := by omega
          have f2 : decide ((j : Int) < (s.size : Int)) = false := decide_eq_false hlt2i
          obtain rfl : R = some (k - b, acc) := textAt_here HA.out (by rw [hd, h39]) (by rw [hj, List.drop_of_length_le (by omega)]; simp)
          obtain ⟨z, hzz⟩ : ∃ z, j - a = z := ⟨_, rfl⟩
          have g5 : IntKind.i64.wrap ((j : Int) - (a : Int)) = (z : Int) := by rw [IntWalk.i64_in _ (by omega)]; omega
          have g5' : ((j : Int) - (a : Int)) = (z : Int) := by omega
          have g5w : IntKind.i64.wrap (z : Int) = (z : Int) := IntWalk.i64_in _ (by omega)
          have hz := strL_size acc
          have hzk : k - b + 2 = z := by have := hab2.out; omega
          have HT2 : Hid ((if !g then tokBad 2 else if 100 < acc.length then tokBad 4 else ⟨4, z, 0, acc, 0⟩) = T) := by
            have := HT.out
            unfold tokTextR at this
            simp only at this
            rw [HG.out, hzk] at this
            exact this
          obtain ⟨sa, hsa⟩ : ∃ sa, strL acc = sa := ⟨_, rfl⟩
          have HSA := hide hsa
          rw [hsa] at hz ⊢
          have H100 : Hid (100 < acc.length ↔ (100 : Int) < (sa.size : Int)) := ⟨fun h => by omega, fun h => by omega⟩
          have hsb : (sa.size : Int) ≤ 1048576 := by omega
          clear HT HG HA hd hcl h39 hzz hz hzk hsa hj
          cases g with
          | false =>
            obtain rfl : tokBad 2 = T := HT2.out
            clear HT2 H100
            go_wp2_with fail
            refine (QB.out _ _).mono ?_
            rintro e3 w3 ⟨rfl, hb3⟩
            replace HX := hide (HX.out.kept hb3)
            replace HB := hide (Bel.then HB.out hb3)
            obtain ⟨⟨c0, c1, c2, c3, c4⟩, ⟨y0, y1, y2, y3, y4⟩⟩ := HX.out.all
            have HS := hide (HX.out.set5 0 a 0 0 { data := #[] })
            have HBS := hide (below_set5 HB.out (Nat.le_refl _) (.int .i64 0) (.int .i64 a) (.int .i64 0) (.int .i64 0) (.string { data := #[] }))
            clear hb3 HX HB
            unfold tokAgg
            go_wp2_with fail
            exact end_tok Tryd.results29 rfl rfl HS.out rfl ⟨rfl, HBS.out⟩
          | true =>
            by_cases h100 : 100 < acc.length
            · obtain rfl : tokBad 4 = T := by rw [← HT2.out, if_neg (by decide), if_pos h100]
              have h100i := H100.out.1 h100
              clear HT2 H100 h100
              go_wp2_with fail
              refine (QB.out _ _).mono ?_
              rintro e3 w3 ⟨rfl, hb3⟩
              replace HX := hide (HX.out.kept hb3)
              replace HB := hide (Bel.then HB.out hb3)
              obtain ⟨⟨c0, c1, c2, c3, c4⟩, ⟨y0, y1, y2, y3, y4⟩⟩ := HX.out.all
              have HS := hide (HX.out.set5 0 a 0 0 { data := #[] })
              have HBS := hide (below_set5 HB.out (Nat.le_refl _) (.int .i64 0) (.int .i64 a) (.int .i64 0) (.int .i64 0) (.string { data := #[] }))
              clear hb3 HX HB
              unfold tokAgg
              go_wp2_with fail
              exact end_tok Tryd.results29 rfl rfl HS.out rfl ⟨rfl, HBS.out⟩
            · obtain rfl : (⟨4, z, 0, acc, 0⟩ : Tok) = T := by rw [← HT2.out, if_neg (by decide), if_neg h100]
              have h100i : ¬ (100 : Int) < (sa.size : Int) := fun h => h100 (H100.out.2 h)
              obtain ⟨⟨c0, c1, c2, c3, c4⟩, ⟨y0, y1, y2, y3, y4⟩⟩ := HX.out.all
              have HS := hide (HX.out.set5 4 a z 0 sa)
              have HBS := hide (below_set5 HB.out (Nat.le_refl _) (.int .i64 4) (.int .i64 a) (.int .i64 z) (.int .i64 0) (.string sa))
              clear HX HB HT2 H100 h100
              go_wp2_with fail
              exact end_tok Tryd.results29 rfl rfl HS.out rfl ⟨by rw [← HSA.out]; rfl, HBS.out⟩
      · have q1 : ((c.toNat : Int) == 39) = false := byte_ne c 39 (by decide) h39
        have q2 : ((c.toNat : Int) != 39) = true := by rw [bne, q1]; rfl
        have HA2 : Hid (TextAt s.data.toList b j (acc ++ [c]) R) := by
          have := textAt_one HA.out hbk hd h39
          rw [hj] at this
          exact this
        have hex : s.extract k j = strL [c] := by rw [strL_extract, hd, ← hj, Nat.add_sub_cancel_left]; rfl
        have b1 : k ≤ j := by omega
        have b2 : j ≤ s.size := by omega
        have b3 : (k : Int) ≤ (j : Int) := by omega
        have b4 : (j : Int) ≤ (s.size : Int) := by omega
        have hac : (acc ++ [c]).length ≤ j := by rw [List.length_append, List.length_singleton]; omega
        have hpa := plain_app acc c
        rw [HG.out] at hpa
        cases g with
        | false =>
          have HG2 : Hid ((acc ++ [c]).all plainB = false) := hpa
          have H2 := hide (strL_app acc [c])
          have hz1 := strL_size acc
          have hz2 : (strL [c]).size = 1 := strL_size _
          have ha1 : ((strL acc).size : Int) ≤ 1048576 := by omega
          have ha2 : ((strL [c]).size : Int) ≤ 1 := by omega
          obtain ⟨u, hu⟩ : ∃ u, strL [c] = u := ⟨_, rfl⟩
          obtain ⟨sa, hsa⟩ : ∃ sa, strL acc = sa := ⟨_, rfl⟩
          rw [hu] at hex H2 ha2
          rw [hsa] at ha1 H2 ⊢
          have hmi : s.size - j < s.size - k := by omega
          have hbi : b ≤ j := by omega
          clear hpa hd hj h39 hz1 hz2 hu hsa HA HG
          go_wp2_with fail
          go_roundw
          case rel => exact ⟨j, acc ++ [c], false, rfl, by rw [H2.out], rfl, hbi, b2, hac, HG2, HA2, HX, HB⟩
          case measure => simpa [intOf] using hmi
        | true =>
          rw [Bool.true_and] at hpa
          have hpl := plain_range (c := c)
          rcases small3 c with hp | hp | hp
          · have p1 : (32 : Int) ≤ (c.toNat : Int) := by omega
            have p2 : (c.toNat : Int) ≤ 126 := by omega
            have HG2 : Hid ((acc ++ [c]).all plainB = true) := by show _ = _; rw [hpa]; exact hpl.2 hp
            clear hpl hp
            have H2 := hide (strL_app acc [c])
            have hz1 := strL_size acc
            have hz2 : (strL [c]).size = 1 := strL_size _
            have ha1 : ((strL acc).size : Int) ≤ 1048576 := by omega
            have ha2 : ((strL [c]).size : Int) ≤ 1 := by omega
            obtain ⟨u, hu⟩ : ∃ u, strL [c] = u := ⟨_, rfl⟩
            obtain ⟨sa, hsa⟩ : ∃ sa, strL acc = sa := ⟨_, rfl⟩
            rw [hu] at hex H2 ha2
            rw [hsa] at ha1 H2 ⊢
            have hmi : s.size - j < s.size - k := by omega
            have hbi : b ≤ j := by omega
            clear hpa hd hj h39 hz1 hz2 hu hsa HA HG
            go_wp2_with fail
            go_roundw
            case rel => exact ⟨j, acc ++ [c], true, rfl, by rw [H2.out], rfl, hbi, b2, hac, HG2, HA2, HX, HB⟩
            case measure => simpa [intOf] using hmi
          · have p1 : ¬ (32 : Int) ≤ (c.toNat : Int) := by omega
            have HG2 : Hid ((acc ++ [c]).all plainB = false) := by show _ = _; rw [hpa]; cases hq : plainB c with | false => rfl | true => have := hpl.1 hq; omega
            clear hpl hp
            have H2 := hide (strL_app acc [c])
            have hz1 := strL_size acc
            have hz2 : (strL [c]).size = 1 := strL_size _
            have ha1 : ((strL acc).size : Int) ≤ 1048576 := by omega
            have ha2 : ((strL [c]).size : Int) ≤ 1 := by omega
            obtain ⟨u, hu⟩ : ∃ u, strL [c] = u := ⟨_, rfl⟩
            obtain ⟨sa, hsa⟩ : ∃ sa, strL acc = sa := ⟨_, rfl⟩
            rw [hu] at hex H2 ha2
            rw [hsa] at ha1 H2 ⊢
            have hmi : s.size - j < s.size - k := by omega
            have hbi : b ≤ j := by omega
            clear hpa hd hj h39 hz1 hz2 hu hsa HA HG
            go_wp2_with fail
            go_roundw
            case rel => exact ⟨j, acc ++ [c], false, rfl, by rw [H2.out], rfl, hbi, b2, hac, HG2, HA2, HX, HB⟩
            case measure => simpa [intOf] using hmi
          · have p1 : (32 : Int) ≤ (c.toNat : Int) := by omega
            have p2 : ¬ (c.toNat : Int) ≤ 126 := by omega
            have HG2 : Hid ((acc ++ [c]).all plainB = false) := by show _ = _; rw [hpa]; cases hq : plainB c with | false => rfl | true => have := hpl.1 hq; omega
            clear hpl hp
            have H2 := hide (strL_app acc [c])
            have hz1 := strL_size acc
            have hz2 : (strL [c]).size = 1 := strL_size _
            have ha1 : ((strL acc).size : Int) ≤ 1048576 := by omega
            have ha2 : ((strL [c]).size : Int) ≤ 1 := by omega
            obtain ⟨u, hu⟩ : ∃ u, strL [c] = u := ⟨_, rfl⟩
            obtain ⟨sa, hsa⟩ : ∃ sa, strL acc = sa := ⟨_, rfl⟩
            rw [hu] at hex H2 ha2
            rw [hsa] at ha1 H2 ⊢
            have hmi : s.size - j < s.size - k := by omega
            have hbi : b ≤ j := by omega
            clear hpa hd hj h39 hz1 hz2 hu hsa HA HG
            go_wp2_with fail
            go_roundw
            case rel => exact ⟨j, acc ++ [c], false, rfl, by rw [H2.out], rfl, hbi, b2, hac, HG2, HA2, HX, HB⟩
            case measure => simpa [intOf] using hmi
    · have hlti : ¬ (k : Int) < s.size := by omega
      have f0 : decide ((k : Int) < (s.size : Int)) = false := decide_eq_false hlti
      have hge : (s.size : Int) ≤ (k : Int) := by omega
      obtain rfl : R = none := textAt_none HA.out (by omega)
      obtain rfl : tokBad 3 = T := HT.out
      clear HA HT HG hab2
      go_wp2_with fail
      refine (QB.out _ _).mono ?_
      rintro e3 w3 ⟨rfl, hb3⟩
      replace HX := hide (HX.out.kept hb3)
      replace HB := hide (Bel.then HB.out hb3)
      obtain ⟨⟨c0, c1, c2, c3, c4⟩, ⟨y0, y1, y2, y3, y4⟩⟩ := HX.out.all
      have HS := hide (HX.out.set5 0 a 0 0 { data := #[] })
      have HBS := hide (below_set5 HB.out (Nat.le_refl _) (.int .i64 0) (.int .i64 a) (.int .i64 0) (.int .i64 0) (.string { data := #[] }))
      clear hb3 HX HB
      unfold tokAgg
      go_wp2_with fail
      exact end_tok Tryd.results29 rfl rfl HS.out rfl ⟨rfl, HBS.out⟩
end Go.Proofs.YtcmhnaanfkpheaaDoor
