/- The contracts of the reference's Plain and word. -/
import Derived.Test.YtcmhnaanfkpheaaDoorLxYb
namespace Go.Proofs.YtcmhnaanfkpheaaDoor
set_option linter.unusedVariables false
open Go.ChangeShapes Go.WideShapes Go.ChangeAt Go.RowKit

theorem strL_app (a b : List UInt8) : strL a ++ strL b = strL (a ++ b) := by
  apply ByteArray.ext
  apply Array.ext'
  simp [strL, ByteArray.data_append]
theorem conv_one (w : World) (y : UInt8) : (convert 36 9 (.slice (some ⟨w.heap.size, 0, none⟩) 1 1)).run Tryd.prog (w.alloc (.cells #[.int .u8 y.toNat] 5)) = .ok (.string (strL [y])) (w.alloc (.cells #[.int .u8 y.toNat] 5)) := by
  have e : strL [y] = strOfNums [(y.toNat : Int)] := by
    unfold strL strOfNums
    simp
  rw [e]
  refine run_convert_bytes_arg (w.alloc (.cells #[.int .u8 y.toNat] 5)) 36 5 Tryd.underlying36 Tryd.underlying5 w.heap.size 0 1 1 [(y.toNat : Int)] rfl ?_ 9 Tryd.underlying9
  intro i hi
  obtain rfl : i = 0 := by omega
  exact cell_of_row (w.alloc (.cells #[.int .u8 y.toNat] 5)) w.heap.size 0 _ _ _ (heap_alloc_new w _)
set_option maxRecDepth 100000 in
set_option maxHeartbeats 2000000 in
theorem rplain_c (s : ByteArray) (w : World) (hm : s.size ≤ 1048576) : Calls Tryd.prog 32 #[.string s] w fun e w' => e = .returned (.bool (formB s.data.toList)) ∧ w = w' := by
  have hl := str_len s
  obtain ⟨q, hq⟩ : ∃ q, formB s.data.toList = q := ⟨_, rfl⟩
  rw [hq]
  have HQ := hide hq
  clear hq
  go_enter Tryd.func32, Tryd.ntmps32
  go_wp2_with fail
  go_loopw [3] (fun v wr => ∃ k : Nat, v = .int .i64 k ∧ k ≤ s.size ∧ Hid (∀ j c, j < k → s.data.toList[j]? = some c → okF j c = true) ∧ w = wr) (fun v _ => s.size - (intOf v).toNat)
  case atStart => exact ⟨0, rfl, Nat.zero_le _, (by intro j c hj; omega), (by first | rfl | trivial)⟩
  case round =>
    obtain ⟨k, rfl, hk, HN, rfl⟩ := hrel
    by_cases hlt : k < s.size
    · have hlti : (k : Int) < s.size := by omega
      have hwk : IntKind.i64.wrap ((k : Int) + 1) = (k : Int) + 1 := IntWalk.i64_in _ (by omega)
      have hg := str_at hlt
      generalize hc : s[k] = c at *
      have hcl := c.toNat_lt
      have Q1 := hide (fun W => rletter_c c.toNat W)
      have Q3 := hide (fun W => rdigit_c c.toNat W)
      rw [low_byte] at Q1
      rw [dig_byte] at Q3
      have hnext : ∀ (_ : okF k c = true), Hid (∀ j d, j < k + 1 → s.data.toList[j]? = some d → okF j d = true) := fun ho j d hj hd => by
        by_cases e : j = k
        · subst e; rw [hg] at hd; injection hd with hd; subst hd; exact ho
        · exact HN.out j d (by omega) hd
      cases h1 : lowB c with
      | true =>
        rw [h1] at Q1
        have HN2 := hnext (by unfold okF; rw [h1]; rfl)
        clear h1 hnext HN hg
        go_wp2_with fail
        refine (Q1.out _).mono ?_
        rintro e w2 ⟨rfl, rfl⟩
        go_wp2_with fail
        go_roundw
        case rel => exact ⟨k + 1, by go_num, by omega, HN2, (by first | rfl | trivial)⟩
        case measure => simp [intOf]; omega
      | false =>
        rw [h1] at Q1
        rcases Nat.eq_zero_or_pos k with h0 | h0
        · obtain rfl : q = false := by rw [← HQ.out]; exact form_bad hg (by unfold okF; rw [h1, h0]; rfl)
          have hz : ((k : Int) == 0) = true := by rw [beq_iff_eq]; omega
          clear h1 hnext HN hg HQ h0
          go_wp2_with fail
          refine (Q1.out _).mono ?_
          rintro e w2 ⟨rfl, rfl⟩
          go_wp2_with fail
          go_ret
          exact ⟨rfl, rfl⟩
        · have hz : ((k : Int) == 0) = false := by rw [beq_eq_false_iff_ne]; omega
          have hne : (k != 0) = true := by rw [bne_iff_ne]; omega
          cases h2 : digB c with
          | true =>
            rw [h2] at Q3
            have HN2 := hnext (by unfold okF; rw [h2, hne]; simp)
            clear h1 h2 hnext HN hg hne h0
            go_wp2_with fail
            refine (Q1.out _).mono ?_
            rintro e w2 ⟨rfl, rfl⟩
            go_wp2_with fail
            refine (Q3.out _).mono ?_
            rintro e w2 ⟨rfl, rfl⟩
            go_wp2_with fail
            go_roundw
            case rel => exact ⟨k + 1, by go_num, by omega, HN2, (by first | rfl | trivial)⟩
            case measure => simp [intOf]; omega
          | false =>
            rw [h2] at Q3
            obtain rfl : q = false := by rw [← HQ.out]; exact form_bad hg (by unfold okF; rw [h1, h2]; simp)
            clear h1 h2 hnext HN hg HQ hne h0
            go_wp2_with fail
            refine (Q1.out _).mono ?_
            rintro e w2 ⟨rfl, rfl⟩
            go_wp2_with fail
            refine (Q3.out _).mono ?_
            rintro e w2 ⟨rfl, rfl⟩
            go_wp2_with fail
            go_ret
            exact ⟨rfl, rfl⟩
    · have hlti : ¬ (k : Int) < s.size := by omega
      by_cases h0 : 0 < s.size
      · have h0i : (0 : Int) < s.size := by omega
        obtain rfl : q = true := by
          rw [← HQ.out]
          exact (form_iff _).2 ⟨by intro e; rw [e] at hl; simp at hl; omega, fun j c hc => HN.out j c (by have := (List.getElem?_eq_some_iff.1 hc).1; omega) hc⟩
        clear HN HQ
        go_wp2_with fail
        go_ret
        exact ⟨rfl, rfl⟩
      · have h0i : ¬ (0 : Int) < s.size := by omega
        obtain rfl : q = false := by
          rw [← HQ.out, List.eq_nil_of_length_eq_zero (by omega : s.data.toList.length = 0)]
          rfl
        clear HN HQ
        go_wp2_with fail
        go_ret
        exact ⟨rfl, rfl⟩
/-- What a word is so far. -/
def WordAt (l : List UInt8) (a k F : Nat) (acc W : List UInt8) : Prop := k + runB wordB (l.drop k) = a + F ∧ acc.length + a = k ∧ acc ++ ((l.drop k).take (runB wordB (l.drop k))).map smallB = W
theorem wordAt_next {l : List UInt8} {a k F : Nat} {acc W : List UInt8} {c : UInt8} (h : WordAt l a k F acc W) (hd : l.drop k = c :: l.drop (k + 1)) (hc : wordB c = true) : WordAt l a (k + 1) F (acc ++ [smallB c]) W := by
  obtain ⟨h1, h2, h3⟩ := h
  rw [hd, run_cons hc] at h1
  rw [hd, run_cons hc, List.take_succ_cons, List.map_cons] at h3
  refine ⟨by omega, by rw [List.length_append]; show acc.length + 1 + a = _; omega, ?_⟩
  rw [← h3]
  simp
theorem wordAt_end {l : List UInt8} {a k F : Nat} {acc W : List UInt8} (h : WordAt l a k F acc W) (h0 : runB wordB (l.drop k) = 0) : k = a + F ∧ acc = W ∧ W.length = F := by
  obtain ⟨h1, h2, h3⟩ := h
  rw [h0] at h1
  rw [h0, List.take_zero, List.map_nil, List.append_nil] at h3
  exact ⟨by omega, h3, by rw [← h3]; omega⟩
set_option maxRecDepth 100000 in
set_option maxHeartbeats 4000000 in
theorem rword_c (s : ByteArray) (a : Nat) (w : World) (ha : a ≤ s.size) (hm : s.size ≤ 1048576) : Calls Tryd.prog 25 #[.string s, .int .i64 a] w (GivesTok w (tokWord (s.data.toList.drop a)) a) := by
  have hl := str_len s
  obtain ⟨F, hF⟩ : ∃ F, runB wordB (s.data.toList.drop a) = F := ⟨_, rfl⟩
  have hFl : F ≤ s.size := by have := run_le wordB (s.data.toList.drop a); rw [List.length_drop] at this; omega
  obtain ⟨W, hW⟩ : ∃ W, ((s.data.toList.drop a).take F).map smallB = W := ⟨_, rfl⟩
  have hT : tokWord (s.data.toList.drop a) = if resB W then ⟨1, F, 0, W, 0⟩ else if 20 < F then tokBad 4 else ⟨2, F, 0, W, 0⟩ := by unfold tokWord; simp only [hF, hW]
  obtain ⟨T, hTT⟩ : ∃ T, tokWord (s.data.toList.drop a) = T := ⟨_, rfl⟩
  have HT : Hid ((if resB W then ⟨1, F, 0, W, 0⟩ else if 20 < F then tokBad 4 else ⟨2, F, 0, W, 0⟩) = T) := by show _ = _; rw [← hT]; exact hTT
  rw [hTT]
  have HW0 : Hid (WordAt s.data.toList a a F [] W) := ⟨by rw [hF], by simp, by rw [hF, hW]; rfl⟩
  have QB := hide (fun W => rbad_c a 4 W)
  have HX0 := hide (tb_new w)
  have HB0 := hide (Bel.one w tok0)
  clear hT hF hW hTT
  go_enter Tryd.func25, Tryd.ntmps25
  go_upto_region 1 with (fail)
  generalize w.alloc (.cells #[.int .i64 0, .int .i64 0, .int .i64 0, .int .i64 0, .string { data := #[] }] 24) = w1 at *
  go_wp2_with fail
  go_loopw [6, 7] (fun kv wv wr => ∃ (k : Nat) (acc : List UInt8), kv = .int .i64 k ∧ wv = .string (strL acc) ∧ a ≤ k ∧ k ≤ s.size ∧ Hid (WordAt s.data.toList a k F acc W) ∧ Hid (TokBox wr w.heap.size 0 0 0 0 { data := #[] }) ∧ Hid (Below w.heap.size w wr)) (fun kv _ _ => s.size - (intOf kv).toNat)
  case atStart => exact ⟨a, [], rfl, rfl, Nat.le_refl _, ha, HW0, HX0, HB0⟩
  case round =>
    clear HW0 HX0 HB0
    obtain ⟨k, acc, rfl, rfl, hak, hk, HW, HX, HB⟩ := hrel
    by_cases hlt : k < s.size
    · have hlti : (k : Int) < s.size := by omega
      have f0 : decide ((k : Int) < (s.size : Int)) = true := decide_eq_true hlti
      have hwk : IntKind.i64.wrap ((k : Int) + 1) = (k : Int) + 1 := IntWalk.i64_in _ (by omega)
      have hd := drop_str hlt
      generalize hc : s[k] = c at *
      have hcl := c.toNat_lt
      have Q1 := hide (fun W => rletter_c c.toNat W)
      have Q2 := hide (fun W => rupper_c c.toNat W)
      have Q3 := hide (fun W => rdigit_c c.toNat W)
      rw [low_byte] at Q1
      rw [up_byte] at Q2
      rw [dig_byte] at Q3
      cases hx : wordB c with
      | true =>
        have HW2 := hide (wordAt_next HW.out hd hx)
        have hal := HW.out.2.1
        obtain ⟨y, hy⟩ : ∃ y, smallB c = y := ⟨_, rfl⟩
        rw [hy] at HW2
        have hyl := y.toNat_lt
        have hwy : IntKind.u8.wrap (y.toNat : Int) = (y.toNat : Int) := IntWalk.u8_in _ (by omega)
        have hcv := conv_one wr y
        have hz1 := strL_size acc
        have hz2 : (strL [y]).size = 1 := strL_size _
        have H2 := hide (strL_app acc [y])
        have HX2 := hide (HX.out.kept (Bel.one wr (.cells #[.int .u8 y.toNat] 5)))
        have HB2 := hide (Bel.then HB.out (Bel.one wr (.cells #[.int .u8 y.toNat] 5)))
        have ha1 : ((strL acc).size : Int) ≤ 1048576 := by omega
        have ha2 : ((strL [y]).size : Int) ≤ 1 := by omega
        obtain ⟨u, hu⟩ : ∃ u, strL [y] = u := ⟨_, rfl⟩
        obtain ⟨sa, hsa⟩ : ∃ sa, strL acc = sa := ⟨_, rfl⟩
        rw [hu] at hcv H2 ha2
        rw [hsa] at ha1 H2 ⊢
        have hcase : (lowB c = true ∧ upB c = false ∧ c = y) ∨ (lowB c = false ∧ upB c = true ∧ IntKind.u8.wrap ((c.toNat : Int) + 32) = (y.toNat : Int)) ∨ (lowB c = false ∧ upB c = false ∧ digB c = true ∧ c = y) := by
          have hyy : upB c = false → c = y := fun e => by rw [← hy]; unfold smallB; rw [if_neg (by rw [e]; decide)]
          cases h1 : lowB c with
          | true => exact .inl ⟨rfl, (low_plain h1).2.2.1, hyy (low_plain h1).2.2.1⟩
          | false =>
            cases h2 : upB c with
            | true =>
              refine .inr (.inl ⟨rfl, rfl, ?_⟩)
              have h3 : 65 ≤ c.toNat ∧ c.toNat ≤ 90 := by
                unfold upB at h2
                rw [Bool.and_eq_true] at h2
                exact ⟨of_decide_eq_true h2.1, of_decide_eq_true h2.2⟩
              rw [← hy]
              unfold smallB
              rw [if_pos h2, UInt8.toNat_add, IntWalk.u8_in _ (by omega)]
              have : (32 : UInt8).toNat = 32 := rfl
              rw [this]
              omega
            | false =>
              refine .inr (.inr ⟨rfl, rfl, ?_, hyy h2⟩)
              unfold wordB at hx
              rw [h1, h2] at hx
              simpa using hx
        clear HW hd hx hal hz1 hz2 hsa hu hy HX HB
        rcases hcase with ⟨h1, h2, rfl⟩ | ⟨h1, h2, hwp⟩ | ⟨h1, h2, h3, rfl⟩
        · rw [h1] at Q1
          rw [h2] at Q2
          clear h1 h2
          go_wp2_with fail
          refine (Q1.out _).mono ?_
          rintro e w2 ⟨rfl, rfl⟩
          go_wp2_with fail
          refine (Q2.out _).mono ?_
          rintro e w2 ⟨rfl, rfl⟩
          go_wp2_with fail
          go_roundw
          case rel => exact ⟨k + 1, acc ++ [c], by go_num, by rw [H2.out], by omega, by omega, HW2, HX2, HB2⟩
          case measure => simp [intOf]; omega
        · rw [h1] at Q1
          rw [h2] at Q2
          clear h1 h2
          go_wp2_with fail
          refine (Q1.out _).mono ?_
          rintro e w2 ⟨rfl, rfl⟩
          go_wp2_with fail
          refine (Q2.out _).mono ?_
          rintro e w2 ⟨rfl, rfl⟩
          go_wp2_with fail
          refine (Q2.out _).mono ?_
          rintro e w2 ⟨rfl, rfl⟩
          go_wp2_with fail
          go_roundw
          case rel => exact ⟨k + 1, acc ++ [y], by go_num, by rw [H2.out], by omega, by omega, HW2, HX2, HB2⟩
          case measure => simp [intOf]; omega
        · rw [h1] at Q1
          rw [h2] at Q2
          rw [h3] at Q3
          clear h1 h2 h3
          go_wp2_with fail
          refine (Q1.out _).mono ?_
          rintro e w2 ⟨rfl, rfl⟩
          go_wp2_with fail
          refine (Q2.out _).mono ?_
          rintro e w2 ⟨rfl, rfl⟩
          go_wp2_with fail
          refine (Q3.out _).mono ?_
          rintro e w2 ⟨rfl, rfl⟩
          go_wp2_with fail
          refine (Q2.out _).mono ?_
          rintro e w2 ⟨rfl, rfl⟩
          go_wp2_with fail
          go_roundw
          case rel => exact ⟨k + 1, acc ++ [c], by go_num, by rw [H2.out], by omega, by omega, HW2, HX2, HB2⟩
          case measure => simp [intOf]; omega
      | false =>
        obtain ⟨hkF, rfl, hWl⟩ := wordAt_end HW.out (by rw [hd]; exact run_stop hx)
        have hq : lowB c = false ∧ upB c = false ∧ digB c = false := by
          unfold wordB at hx
          simpa [and_assoc] using hx
        obtain ⟨h1, h2, h3⟩ := hq
        rw [h1] at Q1
        rw [h2] at Q2
        rw [h3] at Q3
        have QR := hide (fun w h => rreserved_c (strL acc) w h)
        rw [strL_list] at QR
        have hz := strL_size acc
        obtain ⟨sa, hsa⟩ : ∃ sa, strL acc = sa := ⟨_, rfl⟩
        have HSA := hide hsa
        rw [hsa] at QR hz ⊢
        obtain ⟨z, hzz⟩ : ∃ z, k - a = z := ⟨_, rfl⟩
        have g1 : IntKind.i64.wrap ((k : Int) - (a : Int)) = (z : Int) := by rw [IntWalk.i64_in _ (by omega)]; omega
        have g2 : ((k : Int) - (a : Int)) = (z : Int) := by omega
        have g3 : IntKind.i64.wrap (z : Int) = (z : Int) := IntWalk.i64_in _ (by omega)
        have hzF : z = F := by omega
        have hsz : sa.size = z := by omega
        have hszi : (sa.size : Int) = (z : Int) := by omega
        have hsb : sa.size ≤ 1048576 := by omega
        clear HW hd hx hsa hkF hWl hz hzz hszi
        subst hzF
        cases hr : resB acc with
        | true =>
          rw [hr] at QR
          obtain rfl : (⟨1, z, 0, acc, 0⟩ : Tok) = T := by rw [← HT.out, if_pos hr]
          obtain ⟨⟨c0, c1, c2, c3, c4⟩, ⟨y0, y1, y2, y3, y4⟩⟩ := HX.out.all
          have HS := hide (HX.out.set5 1 a z 0 sa)
          have HBS := hide (below_set5 HB.out (Nat.le_refl _) (.int .i64 1) (.int .i64 a) (.int .i64 z) (.int .i64 0) (.string sa))
          clear HX HB HT hr
          go_wp2_with fail
          refine (Q1.out _).mono ?_
          rintro e w2 ⟨rfl, rfl⟩
          go_wp2_with fail
          refine (Q2.out _).mono ?_
          rintro e w2 ⟨rfl, rfl⟩
          go_wp2_with fail
          refine (Q3.out _).mono ?_
          rintro e w2 ⟨rfl, rfl⟩
          go_wp2_with fail
          refine (QR.out _ hsb).mono ?_
          rintro e w2 ⟨rfl, rfl⟩
          go_wp2_with fail
          exact end_tok Tryd.results25 rfl rfl HS.out rfl ⟨by rw [← HSA.out]; rfl, HBS.out⟩
        | false =>
          rw [hr] at QR
          by_cases h20 : 20 < z
          · have h20i : (20 : Int) < sa.size := by omega
            obtain rfl : tokBad 4 = T := by rw [← HT.out, if_neg (by rw [hr]; decide), if_pos h20]
            clear HT hr
            go_wp2_with fail
            refine (Q1.out _).mono ?_
            rintro e w2 ⟨rfl, rfl⟩
            go_wp2_with fail
            refine (Q2.out _).mono ?_
            rintro e w2 ⟨rfl, rfl⟩
            go_wp2_with fail
            refine (Q3.out _).mono ?_
            rintro e w2 ⟨rfl, rfl⟩
            go_wp2_with fail
            refine (QR.out _ hsb).mono ?_
            rintro e w2 ⟨rfl, rfl⟩
            go_wp2_with fail
            refine (QB.out _).mono ?_
            rintro e w3 ⟨rfl, hb⟩
            replace HX := hide (HX.out.kept hb)
            replace HB := hide (Bel.then HB.out hb)
            obtain ⟨⟨c0, c1, c2, c3, c4⟩, ⟨y0, y1, y2, y3, y4⟩⟩ := HX.out.all
            have HS := hide (HX.out.set5 0 a 0 0 { data := #[] })
            have HBS := hide (below_set5 HB.out (Nat.le_refl _) (.int .i64 0) (.int .i64 a) (.int .i64 0) (.int .i64 0) (.string { data := #[] }))
            clear hb HX HB
            unfold tokAgg
            go_wp2_with fail
            exact end_tok Tryd.results25 rfl rfl HS.out rfl ⟨rfl, HBS.out⟩
          · have h20i : ¬ (20 : Int) < sa.size := by omega
            obtain rfl : (⟨2, z, 0, acc, 0⟩ : Tok) = T := by rw [← HT.out, if_neg (by rw [hr]; decide), if_neg h20]
            obtain ⟨⟨c0, c1, c2, c3, c4⟩, ⟨y0, y1, y2, y3, y4⟩⟩ := HX.out.all
            have HS := hide (HX.out.set5 2 a z 0 sa)
            have HBS := hide (below_set5 HB.out (Nat.le_refl _) (.int .i64 2) (.int .i64 a) (.int .i64 z) (.int .i64 0) (.string sa))
            clear HX HB HT hr
            go_wp2_with fail
            refine (Q1.out _).mono ?_
            rintro e w2 ⟨rfl, rfl⟩
            go_wp2_with fail
            refine (Q2.out _).mono ?_
            rintro e w2 ⟨rfl, rfl⟩
            go_wp2_with fail
            refine (Q3.out _).mono ?_
            rintro e w2 ⟨rfl, rfl⟩
            go_wp2_with fail
            refine (QR.out _ hsb).mono ?_
            rintro e w2 ⟨rfl, rfl⟩
            go_wp2_with fail
            exact end_tok Tryd.results25 rfl rfl HS.out rfl ⟨by rw [← HSA.out]; rfl, HBS.out⟩
    · have hlti : ¬ (k : Int) < s.size := by omega
      have f0 : decide ((k : Int) < (s.size : Int)) = false := decide_eq_false hlti
      have hd : s.data.toList.drop k = [] := List.drop_of_length_le (by omega)
      obtain ⟨hkF, rfl, hWl⟩ := wordAt_end HW.out (by rw [hd]; rfl)
      have QR := hide (fun w h => rreserved_c (strL acc) w h)
      rw [strL_list] at QR
      have hz := strL_size acc
      obtain ⟨sa, hsa⟩ : ∃ sa, strL acc = sa := ⟨_, rfl⟩
      have HSA := hide hsa
      rw [hsa] at QR hz ⊢
      obtain ⟨z, hzz⟩ : ∃ z, k - a = z := ⟨_, rfl⟩
      have g1 : IntKind.i64.wrap ((k : Int) - (a : Int)) = (z : Int) := by rw [IntWalk.i64_in _ (by omega)]; omega
      have g2 : ((k : Int) - (a : Int)) = (z : Int) := by omega
      have g3 : IntKind.i64.wrap (z : Int) = (z : Int) := IntWalk.i64_in _ (by omega)
      have hzF : z = F := by omega
      have hsz : sa.size = z := by omega
      have hsb : sa.size ≤ 1048576 := by omega
      clear HW hd hsa hkF hWl hz hzz
      subst hzF
      cases hr : resB acc with
      | true =>
        rw [hr] at QR
        obtain rfl : (⟨1, z, 0, acc, 0⟩ : Tok) = T := by rw [← HT.out, if_pos hr]
        obtain ⟨⟨c0, c1, c2, c3, c4⟩, ⟨y0, y1, y2, y3, y4⟩⟩ := HX.out.all
        have HS := hide (HX.out.set5 1 a z 0 sa)
        have HBS := hide (below_set5 HB.out (Nat.le_refl _) (.int .i64 1) (.int .i64 a) (.int .i64 z) (.int .i64 0) (.string sa))
        clear HX HB HT hr
        go_wp2_with fail
        refine (QR.out _ hsb).mono ?_
        rintro e w2 ⟨rfl, rfl⟩
        go_wp2_with fail
        exact end_tok Tryd.results25 rfl rfl HS.out rfl ⟨by rw [← HSA.out]; rfl, HBS.out⟩
      | false =>
        rw [hr] at QR
        by_cases h20 : 20 < z
        · have h20i : (20 : Int) < sa.size := by omega
          obtain rfl : tokBad 4 = T := by rw [← HT.out, if_neg (by rw [hr]; decide), if_pos h20]
          clear HT hr
          go_wp2_with fail
          refine (QR.out _ hsb).mono ?_
          rintro e w2 ⟨rfl, rfl⟩
          go_wp2_with fail
          refine (QB.out _).mono ?_
          rintro e w3 ⟨rfl, hb⟩
          replace HX := hide (HX.out.kept hb)
          replace HB := hide (Bel.then HB.out hb)
          obtain ⟨⟨c0, c1, c2, c3, c4⟩, ⟨y0, y1, y2, y3, y4⟩⟩ := HX.out.all
          have HS := hide (HX.out.set5 0 a 0 0 { data := #[] })
          have HBS := hide (below_set5 HB.out (Nat.le_refl _) (.int .i64 0) (.int .i64 a) (.int .i64 0) (.int .i64 0) (.string { data := #[] }))
          clear hb HX HB
          unfold tokAgg
          go_wp2_with fail
          exact end_tok Tryd.results25 rfl rfl HS.out rfl ⟨rfl, HBS.out⟩
        · have h20i : ¬ (20 : Int) < sa.size := by omega
          obtain rfl : (⟨2, z, 0, acc, 0⟩ : Tok) = T := by rw [← HT.out, if_neg (by rw [hr]; decide), if_neg h20]
          obtain ⟨⟨c0, c1, c2, c3, c4⟩, ⟨y0, y1, y2, y3, y4⟩⟩ := HX.out.all
          have HS := hide (HX.out.set5 2 a z 0 sa)
          have HBS := hide (below_set5 HB.out (Nat.le_refl _) (.int .i64 2) (.int .i64 a) (.int .i64 z) (.int .i64 0) (.string sa))
          clear HX HB HT hr
          go_wp2_with fail
          refine (QR.out _ hsb).mono ?_
          rintro e w2 ⟨rfl, rfl⟩
          go_wp2_with fail
          exact end_tok Tryd.results25 rfl rfl HS.out rfl ⟨by rw [← HSA.out]; rfl, HBS.out⟩
end Go.Proofs.YtcmhnaanfkpheaaDoor
