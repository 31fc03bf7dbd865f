/- The contract of lex.text. -/
import Derived.Test.YtcmhnaanfkpheaaDoorLxT
namespace Go.Proofs.YtcmhnaanfkpheaaDoor
set_option linter.unusedVariables false
open Go.ChangeShapes Go.WideShapes Go.ChangeAt Go.RowKit

def plainB (c : UInt8) : Bool := decide (32 ≤ c.toNat) && decide (c.toNat ≤ 126)
theorem pre_quote (l : List UInt8) : Lib.hasPrefix (39 :: l) [39, 39] = (l.head? == some 39) := by
  unfold Lib.hasPrefix
  cases l with
  | nil => rfl
  | cons d l =>
    show (39 == (39 : UInt8) && ([39] : List UInt8).isPrefixOf (d :: l)) = (some d == some 39)
    cases h : (d == 39) with
    | true => rw [beq_iff_eq] at h; subst h; simp [List.isPrefixOf]
    | false =>
      have h2 : d ≠ 39 := by simpa using h
      have h3 : ((39 : UInt8) == d) = false := by rw [beq_eq_false_iff_ne]; exact fun e => h2 e.symm
      simp [List.isPrefixOf, h3, h2]
theorem plain_range {c : UInt8} : plainB c = true ↔ 32 ≤ c.toNat ∧ c.toNat ≤ 126 := by unfold plainB; rw [Bool.and_eq_true, decide_eq_true_eq, decide_eq_true_eq]
theorem small3 (c : UInt8) : (32 ≤ c.toNat ∧ c.toNat ≤ 126) ∨ c.toNat < 32 ∨ 126 < c.toNat := by omega
theorem all_bad {l : List UInt8} {p : UInt8 → Bool} {i : Nat} {c : UInt8} (h : l[i]? = some c) (hc : p c = false) : l.all p = false := by
  cases hr : l.all p with
  | false => rfl
  | true => rw [List.all_eq_true.1 hr c (List.mem_of_getElem? h)] at hc; cases hc
theorem strL_size (l : List UInt8) : (strL l).size = l.length := by rw [← str_len, strL_list]
theorem ends_some {l : List UInt8} {R : Option Nat} {k : Nat} (h : endS l 1 = R) (e : R = some k) : ∃ t, textS (l.drop 1) = some (k - 1, t) := by
  rw [e] at h
  unfold endS at h
  obtain ⟨⟨n, t⟩, h1, h2⟩ := Option.map_eq_some_iff.1 h
  refine ⟨t, ?_⟩
  rw [h1]
  simp only at h2
  rw [show n = k - 1 from by omega]
theorem ends_no {l : List UInt8} {R : Option Nat} (h : endS l 1 = R) (e : R = none) : textS (l.drop 1) = none := by
  rw [e] at h
  exact Option.map_eq_none_iff.1 h
set_option maxRecDepth 100000 in
set_option maxHeartbeats 8000000 in
theorem text_c (s : ByteArray) (w : World) (hM : ∃ m, w.cell? ⟨1, 0, none⟩ = some (.int .i64 m)) (h1 : 1 ≤ s.size) (hm : s.size ≤ 1048576) : Calls Tryd.prog 40 #[.string s] w (GivesTok w (tokText s.data.toList) 0) := by
  have hl := str_len s
  obtain ⟨R, hR⟩ : ∃ R, endS s.data.toList 1 = R := ⟨_, rfl⟩
  obtain ⟨T, hTT⟩ : ∃ T, tokText s.data.toList = T := ⟨_, rfl⟩
  rw [hTT]
  have HT := hide hTT
  have HR0 := hide hR
  have HX0 := hide (tb_new w)
  have HB0 := hide (Bel.one w tok0)
  have HM := hide hM
  clear hTT hR hM
  go_enter Tryd.func40, Tryd.ntmps40
  go_upto_region 1 with (fail)
  generalize w.alloc (.cells #[.int .i64 0, .int .i64 0, .int .i64 0, .int .i64 0, .string { data := #[] }] 24) = w1 at *
  go_wp2_with fail
  go_loopw [4] (fun kv wr => ∃ k : Nat, kv = .int .i64 k ∧ 1 ≤ k ∧ k ≤ s.size ∧ Hid (endS s.data.toList k = R) ∧ Hid (TokBox wr w.heap.size 0 0 0 0 { data := #[] }) ∧ Hid (Below w.heap.size w wr)) (fun kv _ => s.size - (intOf kv).toNat)
  case atStart => exact ⟨1, rfl, Nat.le_refl _, h1, HR0, HX0, HB0⟩
  case round =>
    clear HX0 HB0
    obtain ⟨k, rfl, hk1, hk, HR, HX, HB⟩ := hrel
    by_cases hlt : k < s.size
    · have hlti : (k : Int) < s.size := by omega
      have f0 : decide ((k : Int) < (s.size : Int)) = true := decide_eq_true hlti
      have hki : (0 : Int) ≤ (k : Int) := by omega
      have hwk : IntKind.i64.wrap ((k : Int) + 1) = ((k + 1 : Nat) : Int) := by rw [IntWalk.i64_in _ (by omega)]; omega
      have hwk2 : IntKind.i64.wrap (((k + 1 : Nat) : Int) + 1) = ((k + 2 : Nat) : Int) := by rw [IntWalk.i64_in _ (by omega)]; omega
      have hd := drop_str hlt
      generalize hc : s[k] = c at *
      have hcl := c.toNat_lt
      by_cases h39 : c = 39
      · subst h39
        have Q := hide (fun W => Tryd.strings_HasPrefix (s.extract k s.size) ⟨#[39, 39]⟩ W)
        rw [extract_drop, hd, show ((⟨#[39, 39]⟩ : ByteArray).data.toList) = [39, 39] from rfl, pre_quote] at Q
        cases hh : ((s.data.toList.drop (k + 1)).head? == some 39) with
        | true =>
          rw [hh] at Q
          have hk2 : k + 1 < s.size := by
            rcases Nat.lt_or_ge (k + 1) s.size with h | h
            · exact h
            · rw [List.drop_of_length_le (by omega)] at hh; exact absurd hh (by decide)
          have hd2 := drop_str hk2
          have HR2 : Hid (endS s.data.toList (k + 2) = R) := by
            show _ = _
            rw [← HR.out]
            rw [hd2] at hh
            have e : s[k + 1] = 39 := by simpa using hh
            rw [e] at hd2
            exact (ends_two hd hd2).symm
          clear HR hh hd hd2
          go_wp2_with fail
          refine (Q.out _).mono ?_
          rintro e w2 ⟨rfl, rfl⟩
          go_wp2_with fail
          go_roundw
          case rel => exact ⟨k + 2, by go_num, by omega, by omega, HR2, HX, HB⟩
          case measure => simp [intOf]; omega
        | false =>
          rw [hh] at Q
          have hRk : R = some k := by rw [← HR.out]; exact ends_here hd (by intro e; rw [e] at hh; exact absurd hh (by decide))
          obtain ⟨t, ht⟩ : ∃ t, textS (s.data.toList.drop 1) = some (k - 1, t) := ends_some HR0.out hRk
          have HT2 : Hid ((if !(t.all plainB) then tokBad 2 else if 100 < t.length then tokBad 4 else ⟨4, k + 1, 0, t, 0⟩) = T) := by
            show _ = _
            rw [← HT.out]
            unfold tokText
            simp only [ht, show k - 1 + 2 = k + 1 from by omega]
            rfl
          have hsl : s.extract 1 k = strL (dq t) := by rw [strL_extract, textS_dq ht]
          have htl := textS_le ht
          have hdl := dq_len t
          rw [List.length_drop, hl] at htl
          have g1 : (1 : Int) ≤ (k : Int) := by omega
          have g2 : (k : Int) ≤ s.size := by omega
          obtain ⟨m, hm1⟩ := HM.out
          have QR := hide (Tryd.strings_ReplaceAll (strL (dq t)) ⟨#[39, 39]⟩ ⟨#[39]⟩ m wr (by rw [strL_size]; omega) (kept HB.out hm1) (by decide) (by
            have := Lib.countB_le ⟨#[39, 39]⟩ (by decide) (strL (dq t)).size (strL (dq t)) (Nat.le_refl _)
            have := strL_size (dq t)
            show (strL (dq t)).size + Lib.countB (strL (dq t)) ⟨#[39, 39]⟩ * 1 ≤ _
            omega))
          rw [strL_list, show ((⟨#[39, 39]⟩ : ByteArray).data.toList) = [39, 39] from rfl, show ((⟨#[39]⟩ : ByteArray).data.toList) = [39] from rfl, unquote] at QR
          have hxs := strL_size t
          have hxl := strL_list t
          rw [show (⟨t.toArray⟩ : ByteArray) = strL t from rfl] at QR
          generalize hx : strL t = x at *
          have htb : x.size ≤ 1048576 := by omega
          have hwk3 : IntKind.i64.wrap (((k : Int) + 1)) = ((k + 1 : Nat) : Int) := hwk
          clear HR HR0 HT htl hdl ht hRk hh hd hcl
          go_wp2_with fail
          refine (Q.out _).mono ?_
          rintro e w2 ⟨rfl, rfl⟩
          go_wp2_with fail
          refine QR.out.mono ?_
          rintro e w3 ⟨rfl, hb⟩
          replace HX := hide (HX.out.kept hb)
          replace HB := hide (Bel.then HB.out hb)
          clear hb
          go_wp2_with fail
          go_loopw [6] (fun iv wr => ∃ i : Nat, iv = .int .i64 i ∧ i ≤ x.size ∧ Hid (∀ c ∈ t.take i, plainB c = true) ∧ Hid (TokBox wr w.heap.size 0 0 0 0 { data := #[] }) ∧ Hid (Below w.heap.size w wr)) (fun iv _ => x.size - (intOf iv).toNat)
          case atStart => exact ⟨0, rfl, Nat.zero_le _, (by intro c hc; simp at hc), HX, HB⟩
          case round =>
            clear HX HB
            obtain ⟨i, rfl, hi, HP, HX, HB⟩ := hrel
            by_cases hit : i < x.size
            · have hiti : (i : Int) < x.size := by omega
              have hwi : IntKind.i64.wrap ((i : Int) + 1) = (i : Int) + 1 := IntWalk.i64_in _ (by omega)
              have hg := str_at hit
              rw [hxl] at hg
              generalize hc2 : x[i] = c at *
              rcases small3 c with h | h | h
              · have HP2 : Hid (∀ d ∈ t.take (i + 1), plainB d = true) := fun d hd => by
                  rw [take_at hg] at hd
                  rcases List.mem_append.1 hd with hd | hd
                  · exact HP.out d hd
                  · rw [List.mem_singleton.1 hd]; exact plain_range.2 h
                have p1 : ¬ (c.toNat : Int) < 32 := by omega
                have p2 : ¬ (126 : Int) < (c.toNat : Int) := by omega
                clear HP hg h
                go_wp2_with fail
                go_roundw
                case rel => exact ⟨i + 1, by go_num, by omega, HP2, HX, HB⟩
                case measure => simp [intOf]; omega
              · obtain rfl : tokBad 2 = T := by
                  rw [← HT2.out, if_pos]
                  rw [all_bad hg (by cases hp : plainB c with | false => rfl | true => have := plain_range.1 hp; omega)]
                  rfl
                have p1 : (c.toNat : Int) < 32 := by omega
                obtain ⟨⟨c0, c1, c2, c3, c4⟩, ⟨y0, y1, y2, y3, y4⟩⟩ := HX.out.all
                have HS := hide (fun (k a s n : Int) (t : ByteArray) => HX.out.set5 k a s n t)
                have HBS := hide (fun (k a s n : Int) (t : ByteArray) => below_set5 HB.out (Nat.le_refl _) (.int .i64 k) (.int .i64 a) (.int .i64 s) (.int .i64 n) (.string t))
                clear HP hg h HT2
                clear HX HB
                go_wp2_with fail
                exact end_tok Tryd.results40 rfl rfl (HS.out 0 0 0 0 { data := #[] }) rfl ⟨rfl, HBS.out 0 0 0 0 { data := #[] }⟩
              · obtain rfl : tokBad 2 = T := by
                  rw [← HT2.out, if_pos]
                  rw [all_bad hg (by cases hp : plainB c with | false => rfl | true => have := plain_range.1 hp; omega)]
                  rfl
                have p1 : ¬ (c.toNat : Int) < 32 := by omega
                have p2 : (126 : Int) < (c.toNat : Int) := by omega
                obtain ⟨⟨c0, c1, c2, c3, c4⟩, ⟨y0, y1, y2, y3, y4⟩⟩ := HX.out.all
                have HS := hide (fun (k a s n : Int) (t : ByteArray) => HX.out.set5 k a s n t)
                have HBS := hide (fun (k a s n : Int) (t : ByteArray) => below_set5 HB.out (Nat.le_refl _) (.int .i64 k) (.int .i64 a) (.int .i64 s) (.int .i64 n) (.string t))
                clear HP hg h HT2
                clear HX HB
                go_wp2_with fail
                exact end_tok Tryd.results40 rfl rfl (HS.out 0 0 0 0 { data := #[] }) rfl ⟨rfl, HBS.out 0 0 0 0 { data := #[] }⟩
            · have hiti : ¬ (i : Int) < x.size := by omega
              have hall : t.all plainB = true := by
                rw [List.all_eq_true]
                exact fun c hc => HP.out c (by rw [List.take_of_length_le (by omega)]; exact hc)
              clear HP
              obtain ⟨⟨c0, c1, c2, c3, c4⟩, ⟨y0, y1, y2, y3, y4⟩⟩ := HX.out.all
              have HS := hide (fun (k a s n : Int) (t : ByteArray) => HX.out.set5 k a s n t)
              have HBS := hide (fun (k a s n : Int) (t : ByteArray) => below_set5 HB.out (Nat.le_refl _) (.int .i64 k) (.int .i64 a) (.int .i64 s) (.int .i64 n) (.string t))
              by_cases h100 : 100 < t.length
              · have h100i : (100 : Int) < x.size := by omega
                obtain rfl : tokBad 4 = T := by rw [← HT2.out, if_neg (by rw [hall]; decide), if_pos h100]
                clear HT2 HX HB h100 hall
                go_wp2_with fail
                exact end_tok Tryd.results40 rfl rfl (HS.out 0 0 0 0 { data := #[] }) rfl ⟨rfl, HBS.out 0 0 0 0 { data := #[] }⟩
              · have h100i : ¬ (100 : Int) < x.size := by omega
                obtain rfl : (⟨4, k + 1, 0, t, 0⟩ : Tok) = T := by rw [← HT2.out, if_neg (by rw [hall]; decide), if_neg h100]
                clear HT2 HX HB h100 hall
                go_wp2_with fail
                exact end_tok Tryd.results40 rfl rfl (HS.out 4 0 (k + 1 : Nat) 0 x) rfl ⟨by rw [hx]; rfl, HBS.out 4 0 (k + 1 : Nat) 0 x⟩
      · have hne := byte_ne c 39 (by decide) h39
        have hne2 : ((c.toNat : Int) != 39) = true := by rw [bne]; simpa using hne
        have HR2 : Hid (endS s.data.toList (k + 1) = R) := by show _ = _; rw [← HR.out]; exact (ends_step hd h39).symm
        clear HR hd
        go_wp2_with fail
        go_roundw
        case rel => exact ⟨k + 1, by go_num, by omega, by omega, HR2, HX, HB⟩
        case measure => simp [intOf]; omega
    · have hlti : ¬ (k : Int) < s.size := by omega
      have f0 : decide ((k : Int) < (s.size : Int)) = false := decide_eq_false hlti
      have hRn : R = none := by rw [← HR.out]; exact ends_none (by omega)
      obtain rfl : tokBad 3 = T := by
        rw [← HT.out]
        unfold tokText
        rw [ends_no HR0.out hRn]
      obtain ⟨⟨c0, c1, c2, c3, c4⟩, ⟨y0, y1, y2, y3, y4⟩⟩ := HX.out.all
      have HS := hide (fun (k a s n : Int) (t : ByteArray) => HX.out.set5 k a s n t)
      have HBS := hide (fun (k a s n : Int) (t : ByteArray) => below_set5 HB.out (Nat.le_refl _) (.int .i64 k) (.int .i64 a) (.int .i64 s) (.int .i64 n) (.string t))
      clear HR HX HB HT hRn HR0
      go_wp2_with fail
      exact end_tok Tryd.results40 rfl rfl (HS.out 0 0 0 0 { data := #[] }) rfl ⟨rfl, HBS.out 0 0 0 0 { data := #[] }⟩
end Go.Proofs.YtcmhnaanfkpheaaDoor
