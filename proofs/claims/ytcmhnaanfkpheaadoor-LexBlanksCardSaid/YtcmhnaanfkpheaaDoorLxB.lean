/- The contract of lex.number. -/
import Derived.Test.YtcmhnaanfkpheaaDoorLxA
namespace Go.Proofs.YtcmhnaanfkpheaaDoor
set_option linter.unusedVariables false
open Go.ChangeShapes Go.WideShapes Go.ChangeAt Go.RowKit

abbrev tok0 : Obj := .cells #[.int .i64 0, .int .i64 0, .int .i64 0, .int .i64 0, .string { data := #[] }] 24
theorem tb_new (w : World) : TokBox (w.alloc tok0) w.heap.size 0 0 0 0 { data := #[] } := heap_alloc_new w _
theorem num_step {c : UInt8} {m : Nat} {l : List UInt8} (h : digB c = true) : numB8 m (c :: l) = numB8 (min (m * 10 + (c.toNat - 48)) 1000000000000001) l := by rw [numB8, if_pos h]
theorem num_stop {c : UInt8} {m : Nat} {l : List UInt8} (h : digB c = false) : numB8 m (c :: l) = m := by rw [numB8, if_neg (by rw [h]; decide)]
theorem dig_range {c : UInt8} (h : digB c = true) : 48 ≤ c.toNat ∧ c.toNat ≤ 57 := by
  unfold digB at h
  rw [Bool.and_eq_true] at h
  exact ⟨of_decide_eq_true h.1, of_decide_eq_true h.2⟩
set_option maxRecDepth 100000 in
set_option maxHeartbeats 2000000 in
theorem number_c (s : ByteArray) (w : World) (hm : s.size ≤ 1048576) : Calls Tryd.prog 38 #[.string s] w (GivesTok w (tokNum s.data.toList) 0) := by
  have hl := str_len s
  obtain ⟨F, hF⟩ : ∃ F, runB digB s.data.toList = F := ⟨_, rfl⟩
  obtain ⟨V, hV⟩ : ∃ V, numB8 0 s.data.toList = V := ⟨_, rfl⟩
  have hT : tokNum s.data.toList = if 1000000000000000 < V then tokBad 4 else ⟨3, F, V, [], 0⟩ := by unfold tokNum; rw [hF, hV]
  obtain ⟨T, hTT⟩ : ∃ T, tokNum s.data.toList = T := ⟨_, rfl⟩
  have HT : Hid ((if 1000000000000000 < V then tokBad 4 else ⟨3, F, V, [], 0⟩) = T) := by show _ = _; rw [← hT]; exact hTT
  rw [hTT]
  have HX := hide (tb_new w)
  have HB := hide (Bel.one w tok0)
  have HF : Hid (0 + runB digB (s.data.toList.drop 0) = F) := by show _ = _; rw [Nat.zero_add]; exact hF
  have HV : Hid (numB8 0 (s.data.toList.drop 0) = V) := hV
  clear hT hF hV hTT
  go_enter Tryd.func38, Tryd.ntmps38
  go_upto_region 1 with (fail)
  generalize w.alloc (.cells #[.int .i64 0, .int .i64 0, .int .i64 0, .int .i64 0, .string { data := #[] }] 24) = w1 at *
  go_wp2_with fail
  go_loopw [4, 5] (fun v kv wr => ∃ m k : Nat, v = .int .i64 m ∧ kv = .int .i64 k ∧ k ≤ s.size ∧ m ≤ 1000000000000001 ∧ Hid (k + runB digB (s.data.toList.drop k) = F) ∧ Hid (numB8 m (s.data.toList.drop k) = V) ∧ Hid (TokBox wr w.heap.size 0 0 0 0 { data := #[] }) ∧ Hid (Below w.heap.size w wr)) (fun _ kv _ => s.size - (intOf kv).toNat)
  case atStart => exact ⟨0, 0, rfl, rfl, Nat.zero_le _, Nat.zero_le _, HF, HV, HX, HB⟩
  case round =>
    clear HF HV HX HB
    obtain ⟨m, k, rfl, rfl, hk, hmm, HF, HV, HX, HB⟩ := hrel
    have hdone : (∀ (_ : runB digB (s.data.toList.drop k) = 0) (_ : numB8 m (s.data.toList.drop k) = m), k = F ∧ m = V) := fun h1 h2 => by
      have e1 := HF.out
      have e2 := HV.out
      rw [h1] at e1
      rw [h2] at e2
      exact ⟨by omega, e2⟩
    obtain ⟨⟨c0, c1, c2, c3, c4⟩, ⟨y0, y1, y2, y3, y4⟩⟩ := HX.out.all
    have HS := hide (fun (k a s n : Int) (t : ByteArray) => HX.out.set5 k a s n t)
    have HBS := hide (fun (k a s n : Int) (t : ByteArray) => below_set5 HB.out (Nat.le_refl _) (.int .i64 k) (.int .i64 a) (.int .i64 s) (.int .i64 n) (.string t))
    by_cases hlt : k < s.size
    · have hlti : (k : Int) < s.size := by omega
      have f0 : decide ((k : Int) < (s.size : Int)) = true := decide_eq_true hlti
      have hwk : IntKind.i64.wrap ((k : Int) + 1) = (k : Int) + 1 := IntWalk.i64_in _ (by omega)
      have hd := drop_str hlt
      rw [hd] at HF HV hdone
      generalize hc : s[k] = c at *
      have hcl := c.toNat_lt
      have hwc : IntKind.i32.wrap (c.toNat : Int) = (c.toNat : Int) := IntWalk.i32_in _ (by omega)
      have Q := hide (fun W => digit_c c.toNat W)
      rw [dig_byte] at Q
      cases hx : digB c with
      | true =>
        obtain ⟨r1, r2⟩ := dig_range hx
        rw [hx] at Q
        rw [run_cons hx] at HF
        rw [num_step hx] at HV
        obtain ⟨d, hdd⟩ : ∃ d, c.toNat - 48 = d := ⟨_, rfl⟩
        obtain ⟨q, hq⟩ : ∃ q, m * 10 = q := ⟨_, rfl⟩
        obtain ⟨p, hp⟩ : ∃ p, q + d = p := ⟨_, rfl⟩
        obtain ⟨m2, hm2⟩ : ∃ m2, min p 1000000000000001 = m2 := ⟨_, rfl⟩
        rw [hdd, hq, hp, hm2] at HV
        have f1 : IntKind.u8.wrap ((c.toNat : Int) - 48) = (d : Int) := by
          have : (c.toNat : Int) - 48 = (d : Int) := by omega
          rw [this]
          exact IntWalk.u8_in _ (by omega)
        have f1' : ((c.toNat : Int) - 48) = (d : Int) := by omega
        have f2 : IntKind.i64.wrap ((m : Int) * 10) = (q : Int) := by rw [IntWalk.i64_in _ (by omega)]; omega
        have f2' : ((m : Int) * 10) = (q : Int) := by omega
        have f3 : IntKind.i64.wrap ((q : Int) + (d : Int)) = (p : Int) := by rw [IntWalk.i64_in _ (by omega)]; omega
        have f3' : ((q : Int) + (d : Int)) = (p : Int) := by omega
        have f4 : min (p : Int) 1000000000000001 = (m2 : Int) := by omega
        have f5 : IntKind.i64.wrap (q : Int) = (q : Int) := IntWalk.i64_in _ (by omega)
        have f6 : IntKind.i64.wrap (p : Int) = (p : Int) := IntWalk.i64_in _ (by omega)
        have f7 : IntKind.i64.wrap (d : Int) = (d : Int) := IntWalk.i64_in _ (by omega)
        have hm2b : m2 ≤ 1000000000000001 := by omega
        have HF2 : Hid (k + 1 + runB digB (s.data.toList.drop (k + 1)) = F) := by have := HF.out; show _ = _; omega
        clear hdd hq hp hm2 HF hd hdone hx HS HBS
        go_wp2_with fail
        refine (Q.out _).mono ?_
        rintro e w2 ⟨rfl, rfl⟩
        go_wp2_with fail
        go_roundw
        case rel => exact ⟨m2, k + 1, rfl, by go_num, by omega, hm2b, HF2, HV, HX, HB⟩
        case measure => simp [intOf]; omega
      | false =>
        rw [hx] at Q
        obtain ⟨rfl, rfl⟩ := hdone (run_stop hx) (num_stop hx)
        clear HF HV hd hx
        by_cases hv : 1000000000000000 < m
        · have hvi : (1000000000000000 : Int) < m := by omega
          obtain rfl : tokBad 4 = T := by rw [← HT.out, if_pos hv]
          go_wp2_with fail
          refine (Q.out _).mono ?_
          rintro e w2 ⟨rfl, rfl⟩
          go_wp2_with fail
          exact end_tok Tryd.results38 rfl rfl (HS.out 0 0 0 0 { data := #[] }) rfl ⟨rfl, HBS.out 0 0 0 0 { data := #[] }⟩
        · have hvi : ¬ (1000000000000000 : Int) < m := by omega
          obtain rfl : (⟨3, k, m, [], 0⟩ : Tok) = T := by rw [← HT.out, if_neg hv]
          go_wp2_with fail
          refine (Q.out _).mono ?_
          rintro e w2 ⟨rfl, rfl⟩
          go_wp2_with fail
          exact end_tok Tryd.results38 rfl rfl (HS.out 3 0 k m { data := #[] }) rfl ⟨rfl, HBS.out 3 0 k m { data := #[] }⟩
    · have hlti : ¬ (k : Int) < s.size := by omega
      have f0 : decide ((k : Int) < (s.size : Int)) = false := decide_eq_false hlti
      have hd : s.data.toList.drop k = [] := List.drop_of_length_le (by omega)
      rw [hd] at hdone
      obtain ⟨rfl, rfl⟩ := hdone rfl rfl
      clear HF HV hd
      by_cases hv : 1000000000000000 < m
      · have hvi : (1000000000000000 : Int) < m := by omega
        obtain rfl : tokBad 4 = T := by rw [← HT.out, if_pos hv]
        go_wp2_with fail
        exact end_tok Tryd.results38 rfl rfl (HS.out 0 0 0 0 { data := #[] }) rfl ⟨rfl, HBS.out 0 0 0 0 { data := #[] }⟩
      · have hvi : ¬ (1000000000000000 : Int) < m := by omega
        obtain rfl : (⟨3, k, m, [], 0⟩ : Tok) = T := by rw [← HT.out, if_neg hv]
        go_wp2_with fail
        exact end_tok Tryd.results38 rfl rfl (HS.out 3 0 k m { data := #[] }) rfl ⟨rfl, HBS.out 3 0 k m { data := #[] }⟩
end Go.Proofs.YtcmhnaanfkpheaaDoor
