/- The contract of scalar.Apply for whatever operators, names and values. -/
import Derived.Test.YtlkeghfdpbfhbaaScQ
namespace Go.Proofs.Ytlkeghfdpbfhbaa
set_option linter.unusedVariables false
open Go.ChangeShapes Go.WideShapes Go.ChangeAt Go.RowKit

theorem applyV_1 {op : Int} (h : op = 3 ∨ op = 4 ∨ op = 19) (nm : ByteArray) (l : List ValV) : applyV op nm l = (match l with | [a] => unV op a | _ => nullV) := by
  unfold applyV
  rw [if_pos h]
  rfl
theorem applyV_2 {op : Int} (h : (5 ≤ op ∧ op ≤ 18) ∨ op = 20) (nm : ByteArray) (l : List ValV) : applyV op nm l = (match l with | [a, b] => binV op a b | _ => nullV) := by
  unfold applyV
  rw [if_neg (by omega), if_pos h]
  rfl
theorem applyV_0 {op : Int} (h : op < 3 ∨ 24 < op) (nm : ByteArray) (l : List ValV) : applyV op nm l = nullV := by
  unfold applyV
  rw [if_neg (by omega), if_neg (by omega), if_neg (by omega), if_neg (by omega), if_neg (by omega), if_neg (by omega)]
set_option maxRecDepth 100000 in
set_option maxHeartbeats 4000000 in
theorem applyN1_c (op : Int) (hop : op = 3 ∨ op = 4 ∨ op = 19) (nm : ByteArray) (A : Option Addr) (n c : Nat) (hn : n ≠ 1) (w : World) : Calls Try.prog 10 #[.int .i64 op, .string nm, .slice A n c] w (GivesV w nullV) := by
  have HX := hide (vb_one w)
  have HB := hide (Bel.one w zO)
  have n1 : ((n : Int) == 1) = false := by rw [beq_eq_false_iff_ne]; omega
  clear hn
  rcases hop with rfl | rfl | rfl
  all_goals
    obtain ⟨⟨d0, d1, d2⟩, ⟨y0, y1, y2⟩⟩ := HX.out.all
    have HS := hide (HX.out.set3 nullV)
    have HBS := hide (below_setV HB.out (Nat.le_refl _) nullV)
    go_enter Try.func10, Try.ntmps10
    go_upto_region 1 with (fail)
    generalize w.alloc (.cells #[.int .i64 0, .int .i64 0, .string { data := #[] }] 26) = w1 at *
    clear HX HB 
    go_wp2_with fail
    exact end_v Try.results10 rfl rfl HS.out ⟨rfl, HBS.out⟩
set_option maxRecDepth 100000 in
set_option maxHeartbeats 8000000 in
theorem applyN2_c (op : Int) (hop : (5 ≤ op ∧ op ≤ 18) ∨ op = 20) (nm : ByteArray) (A : Option Addr) (n c : Nat) (hn : n ≠ 2) (w : World) : Calls Try.prog 10 #[.int .i64 op, .string nm, .slice A n c] w (GivesV w nullV) := by
  have HX := hide (vb_one w)
  have HB := hide (Bel.one w zO)
  have n1 : ((n : Int) == 2) = false := by rw [beq_eq_false_iff_ne]; omega
  clear hn
  rcases (show op = 5 ∨ op = 6 ∨ op = 7 ∨ op = 8 ∨ op = 9 ∨ op = 10 ∨ op = 11 ∨ op = 12 ∨ op = 13 ∨ op = 14 ∨ op = 15 ∨ op = 16 ∨ op = 17 ∨ op = 18 ∨ op = 20 by omega) with rfl | rfl | rfl | rfl | rfl | rfl | rfl | rfl | rfl | rfl | rfl | rfl | rfl | rfl | rfl
  all_goals
    clear hop
    obtain ⟨⟨d0, d1, d2⟩, ⟨y0, y1, y2⟩⟩ := HX.out.all
    have HS := hide (HX.out.set3 nullV)
    have HBS := hide (below_setV HB.out (Nat.le_refl _) nullV)
    go_enter Try.func10, Try.ntmps10
    go_upto_region 1 with (fail)
    generalize w.alloc (.cells #[.int .i64 0, .int .i64 0, .string { data := #[] }] 26) = w1 at *
    clear HX HB 
    go_wp2_with fail
    exact end_v Try.results10 rfl rfl HS.out ⟨rfl, HBS.out⟩
set_option maxRecDepth 100000 in
set_option maxHeartbeats 4000000 in
theorem applyN3_c (nm : ByteArray) (A : Option Addr) (n c : Nat) (hn : n ≠ 3) (w : World) : Calls Try.prog 10 #[.int .i64 22, .string nm, .slice A n c] w (GivesV w nullV) := by
  have HX := hide (vb_one w)
  have HB := hide (Bel.one w zO)
  have n1 : ((n : Int) == 3) = false := by rw [beq_eq_false_iff_ne]; omega
  clear hn
  obtain ⟨⟨d0, d1, d2⟩, ⟨y0, y1, y2⟩⟩ := HX.out.all
  have HS := hide (HX.out.set3 nullV)
  have HBS := hide (below_setV HB.out (Nat.le_refl _) nullV)
  go_enter Try.func10, Try.ntmps10
  go_upto_region 1 with (fail)
  generalize w.alloc (.cells #[.int .i64 0, .int .i64 0, .string { data := #[] }] 26) = w1 at *
  clear HX HB 
  go_wp2_with fail
  exact end_v Try.results10 rfl rfl HS.out ⟨rfl, HBS.out⟩
set_option maxRecDepth 100000 in
set_option maxHeartbeats 4000000 in
theorem applyN4_c (op : Int) (hop : op = 21 ∨ op = 23) (nm : ByteArray) (A : Option Addr) (n c : Nat) (hn : n < 2) (w : World) : Calls Try.prog 10 #[.int .i64 op, .string nm, .slice A n c] w (GivesV w nullV) := by
  have HX := hide (vb_one w)
  have HB := hide (Bel.one w zO)
  have n1 : ¬ (2 : Int) ≤ (n : Int) := by omega
  clear hn
  rcases hop with rfl | rfl
  all_goals
    obtain ⟨⟨d0, d1, d2⟩, ⟨y0, y1, y2⟩⟩ := HX.out.all
    have HS := hide (HX.out.set3 nullV)
    have HBS := hide (below_setV HB.out (Nat.le_refl _) nullV)
    go_enter Try.func10, Try.ntmps10
    go_upto_region 1 with (fail)
    generalize w.alloc (.cells #[.int .i64 0, .int .i64 0, .string { data := #[] }] 26) = w1 at *
    clear HX HB 
    go_wp2_with fail
    exact end_v Try.results10 rfl rfl HS.out ⟨rfl, HBS.out⟩
set_option maxRecDepth 100000 in
set_option maxHeartbeats 4000000 in
theorem applyN0_c (op : Int) (hop : op < 3 ∨ 24 < op) (nm : ByteArray) (A : Option Addr) (n c : Nat) (w : World) : Calls Try.prog 10 #[.int .i64 op, .string nm, .slice A n c] w (GivesV w nullV) := by
  have HX := hide (vb_one w)
  have HB := hide (Bel.one w zO)
  have e3 : (op == 3) = false := by rw [beq_eq_false_iff_ne]; omega
  have e4 : (op == 4) = false := by rw [beq_eq_false_iff_ne]; omega
  have e5 : (op == 5) = false := by rw [beq_eq_false_iff_ne]; omega
  have e6 : (op == 6) = false := by rw [beq_eq_false_iff_ne]; omega
  have e7 : (op == 7) = false := by rw [beq_eq_false_iff_ne]; omega
  have e8 : (op == 8) = false := by rw [beq_eq_false_iff_ne]; omega
  have e9 : (op == 9) = false := by rw [beq_eq_false_iff_ne]; omega
  have e10 : (op == 10) = false := by rw [beq_eq_false_iff_ne]; omega
  have e11 : (op == 11) = false := by rw [beq_eq_false_iff_ne]; omega
  have e12 : (op == 12) = false := by rw [beq_eq_false_iff_ne]; omega
  have e13 : (op == 13) = false := by rw [beq_eq_false_iff_ne]; omega
  have e14 : (op == 14) = false := by rw [beq_eq_false_iff_ne]; omega
  have e15 : (op == 15) = false := by rw [beq_eq_false_iff_ne]; omega
  have e16 : (op == 16) = false := by rw [beq_eq_false_iff_ne]; omega
  have e17 : (op == 17) = false := by rw [beq_eq_false_iff_ne]; omega
  have e18 : (op == 18) = false := by rw [beq_eq_false_iff_ne]; omega
  have e19 : (op == 19) = false := by rw [beq_eq_false_iff_ne]; omega
  have e20 : (op == 20) = false := by rw [beq_eq_false_iff_ne]; omega
  have e21 : (op == 21) = false := by rw [beq_eq_false_iff_ne]; omega
  have e22 : (op == 22) = false := by rw [beq_eq_false_iff_ne]; omega
  have e23 : (op == 23) = false := by rw [beq_eq_false_iff_ne]; omega
  have e24 : (op == 24) = false := by rw [beq_eq_false_iff_ne]; omega
  clear hop
  obtain ⟨⟨d0, d1, d2⟩, ⟨y0, y1, y2⟩⟩ := HX.out.all
  have HS := hide (HX.out.set3 nullV)
  have HBS := hide (below_setV HB.out (Nat.le_refl _) nullV)
  go_enter Try.func10, Try.ntmps10
  go_upto_region 1 with (fail)
  generalize w.alloc (.cells #[.int .i64 0, .int .i64 0, .string { data := #[] }] 26) = w1 at *
  clear HX HB 
  go_wp2_with fail
  exact end_v Try.results10 rfl rfl HS.out ⟨rfl, HBS.out⟩
set_option maxRecDepth 100000 in
set_option maxHeartbeats 4000000 in
theorem applyF_c (nm : ByteArray) (A : Option Addr) (n c : Nat) (l : List ValV) (w : World) (h : RowV w w.heap.size A n c l) (hs : ∀ v ∈ l, v.str.size ≤ 1048576) : Calls Try.prog 10 #[.int .i64 24, .string nm, .slice A n c] w (GivesV w (callV nm l)) := by
  have HX := hide (vb_one w)
  have HB := hide (Bel.one w zO)
  have HR := hide (h.kept (Bel.one w zO))
  clear h
  have Q := hide (fun W h => call_c nm A n c l W h hs)
  generalize callV nm l = r at *
  clear hs
  go_enter Try.func10, Try.ntmps10
  go_upto_region 1 with (fail)
  generalize w.alloc (.cells #[.int .i64 0, .int .i64 0, .string { data := #[] }] 26) = w1 at *
  go_wp2_with fail
  refine (Q.out _ HR.out).mono ?_
  rintro e w2 ⟨rfl, hb⟩
  replace HX := hide (HX.out.kept hb)
  replace HB := hide (Bel.then HB.out hb)
  clear hb
  obtain ⟨⟨c0, c1, c2⟩, ⟨y0, y1, y2⟩⟩ := HX.out.all
  have HS := hide (HX.out.set3 (r))
  have HBS := hide (below_setV HB.out (Nat.le_refl _) (r))
  clear HX HB 
  unfold valAgg
  go_wp2_with fail
  exact end_v Try.results10 rfl rfl HS.out ⟨rfl, HBS.out⟩
theorem apply_c (op : Int) (nm : ByteArray) (A : Option Addr) (n c : Nat) (l : List ValV) (w : World) (h : RowV w w.heap.size A n c l) (hs : ∀ v ∈ l, v.str.size ≤ 1048576) : Calls Try.prog 10 #[.int .i64 op, .string nm, .slice A n c] w (GivesV w (applyV op nm l)) := by
  have hlen := h.len
  rcases (show (op = 3 ∨ op = 4 ∨ op = 19) ∨ ((5 ≤ op ∧ op ≤ 18) ∨ op = 20) ∨ op = 21 ∨ op = 22 ∨ op = 23 ∨ op = 24 ∨ (op < 3 ∨ 24 < op) by omega) with ho | ho | rfl | rfl | rfl | rfl | ho
  · rw [applyV_1 ho]
    match l, hlen, h, hs with
    | [a], hlen, h, hs =>
      simp only [List.length_singleton] at hlen
      subst hlen
      exact apply1_c op ho nm a A c w h
    | [], hlen, h, hs => exact applyN1_c op ho nm A n c (by simp only [List.length_nil] at hlen; omega) w
    | x :: y :: l, hlen, h, hs => exact applyN1_c op ho nm A n c (by simp only [List.length_cons] at hlen; omega) w
  · rw [applyV_2 ho]
    match l, hlen, h, hs with
    | [a, b], hlen, h, hs =>
      simp only [List.length_cons, List.length_nil, Nat.zero_add, Nat.reduceAdd] at hlen
      subst hlen
      exact apply2_c op ho nm a b A c w h (fun _ => ⟨hs a (by simp), hs b (by simp)⟩)
    | [], hlen, h, hs => exact applyN2_c op ho nm A n c (by simp only [List.length_nil] at hlen; omega) w
    | [x], hlen, h, hs => exact applyN2_c op ho nm A n c (by simp only [List.length_singleton] at hlen; omega) w
    | x :: y :: z :: l, hlen, h, hs => exact applyN2_c op ho nm A n c (by simp only [List.length_cons] at hlen; omega) w
  · match l, hlen, h, hs with
    | a :: b :: l, hlen, h, hs => exact applyIn_c nm a (b :: l) A n c w h (by simp)
    | [], hlen, h, hs => exact applyN4_c 21 (.inl rfl) nm A n c (by simp only [List.length_nil] at hlen; omega) w
    | [x], hlen, h, hs => exact applyN4_c 21 (.inl rfl) nm A n c (by simp only [List.length_singleton] at hlen; omega) w
  · match l, hlen, h, hs with
    | [a, b, d], hlen, h, hs =>
      simp only [List.length_cons, List.length_nil, Nat.zero_add, Nat.reduceAdd] at hlen
      subst hlen
      exact apply3_c nm a b d A c w h
    | [], hlen, h, hs => exact applyN3_c nm A n c (by simp only [List.length_nil] at hlen; omega) w
    | [x], hlen, h, hs => exact applyN3_c nm A n c (by simp only [List.length_singleton] at hlen; omega) w
    | [x, y], hlen, h, hs => exact applyN3_c nm A n c (by simp only [List.length_cons, List.length_nil] at hlen; omega) w
    | x :: y :: z :: u :: l, hlen, h, hs => exact applyN3_c nm A n c (by simp only [List.length_cons] at hlen; omega) w
  · match l, hlen, h, hs with
    | a :: b :: l, hlen, h, hs => exact applyCase_c nm (a :: b :: l) A n c w h (by simp only [List.length_cons] at hlen; omega)
    | [], hlen, h, hs => exact applyN4_c 23 (.inr rfl) nm A n c (by simp only [List.length_nil] at hlen; omega) w
    | [x], hlen, h, hs => exact applyN4_c 23 (.inr rfl) nm A n c (by simp only [List.length_singleton] at hlen; omega) w
  · exact applyF_c nm A n c l w h hs
  · rw [applyV_0 ho]
    exact applyN0_c op ho nm A n c w
def shortP (l : List ValV) : Bool := l.all fun v => decide (v.str.size ≤ 2000)
set_option maxHeartbeats 1000000 in
theorem short_c (A : Option Addr) (n c : Nat) (l : List ValV) (w : World) (h : RowV w w.heap.size A n c l) : Calls Try.prog 8 #[.slice A n c] w fun e w' => e = .returned (.bool (shortP l)) ∧ w = w' := by
  have hmx := Nat.le_trans h.cap h.max
  unfold maxLen at hmx
  have H := hide h
  have HL := hide h.len
  clear h
  go_enter Try.func8, Try.ntmps8
  go_wp2_with fail
  go_loop [3] (fun i => ∃ k : Nat, k ≤ n ∧ i = .int .i64 k ∧ Hid (shortP (l.take k) = true)) (fun i => n - (intOf i).toNat)
  case atStart => exact ⟨0, Nat.zero_le _, rfl, rfl⟩
  case round =>
    obtain ⟨k, hk, rfl, HT⟩ := hrel
    by_cases hlt : k < n
    · have hlti : (k : Int) < n := by omega
      have hwk : IntKind.i64.wrap ((k : Int) + 1) = (k : Int) + 1 := IntWalk.i64_in _ (by omega)
      obtain ⟨blk, off, x, rfl, _, hx, hc⟩ := H.out.at (by omega) hlt
      have l2 := hc 2 _ rfl
      rw [← Nat.add_assoc] at l2
      have HX := hide hx
      clear hc hx
      by_cases hz : x.str.size ≤ 2000
      · have HT1 : Hid (shortP (l.take (k + 1)) = true) := by
          show _ = _
          unfold shortP
          rw [take_at HX.out, List.all_append, show (l.take k).all (fun v => decide (v.str.size ≤ 2000)) = true from HT.out]
          simp [hz]
        have hzi : ¬ (2000 : Int) < (x.str.size : Int) := by omega
        clear hz
        go_wp2_with fail
        go_round
        case rel => exact ⟨k + 1, by omega, by go_num, HT1⟩
        case measure => simp [intOf]; omega
      · have hzi : (2000 : Int) < (x.str.size : Int) := by omega
        have HF : Hid (shortP l = false) := by
          show _ = _
          unfold shortP
          rw [List.all_eq_false]
          exact ⟨x, List.mem_of_getElem? HX.out, by simp; omega⟩
        clear hz
        go_wp2_with fail
        go_ret
        exact ⟨ret_bool HF.out.symm, rfl⟩
    · have hlti : ¬ (k : Int) < n := by omega
      have HF : Hid (shortP l = true) := by
        show _ = _
        have := HT.out
        rw [show k = n by omega, ← HL.out, List.take_length] at this
        exact this
      go_wp2_with fail
      go_ret
      exact ⟨ret_bool HF.out.symm, rfl⟩
end Go.Proofs.Ytlkeghfdpbfhbaa
