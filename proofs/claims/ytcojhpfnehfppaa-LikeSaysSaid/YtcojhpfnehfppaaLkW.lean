/- The walks of the statements on package like. -/
import Derived.Test.YtcojhpfnehfppaaLkL
import Derived.Test.YtcojhpfnehfppaaRep
namespace Go.Proofs.Ytcojhpfnehfppaa
set_option linter.unusedVariables false
open Go.ChangeShapes Go.WideShapes Go.ChangeAt Go.RowKit

set_option maxRecDepth 100000 in
set_option maxHeartbeats 1000000 in
theorem says_w (s p : ByteArray) (w : World) (hs : s.size ≤ maxLen) (hp : p.size ≤ maxLen) : Calls Try.prog 3 #[.string s, .string p] w fun e w' => e = .returned (.bool true) ∧ Below w.heap.size w w' := by
  unfold maxLen at hs hp
  by_cases h1 : 200 < s.size
  · have h1i : (200 : Int) < s.size := by omega
    have Q := hide (fun W => awake_c W)
    go_enter Try.func3, Try.ntmps3
    go_wp2_with fail
    refine (Q.out _).mono ?_
    rintro e w1 ⟨rfl, hb⟩
    have HB1 := hide (hb)
    clear hb Q
    go_wp2_with fail
    go_ret
    exact ⟨ret_bool (by first | rfl | (simp; done)), HB1.out⟩
  by_cases h2 : 200 < p.size
  · have h1i : ¬ (200 : Int) < s.size := by omega
    have h2i : (200 : Int) < p.size := by omega
    have Q := hide (fun W => awake_c W)
    go_enter Try.func3, Try.ntmps3
    go_wp2_with fail
    refine (Q.out _).mono ?_
    rintro e w1 ⟨rfl, hb⟩
    have HB1 := hide (hb)
    clear hb Q
    go_wp2_with fail
    go_ret
    exact ⟨ret_bool (by first | rfl | (simp; done)), HB1.out⟩
  have h1i : ¬ (200 : Int) < s.size := by omega
  have h2i : ¬ (200 : Int) < p.size := by omega
  have Q1 := hide (fun W => exact_c p W (by omega))
  have Q2 := hide (fun W => rexact_c p W (by omega))
  have Q3 := hide (fun W => awake_c W)
  have Q4 := hide (fun W => match_c s p W (by omega) (by omega))
  have Q5 := hide (fun W => rmatch_c s p W (by omega) (by omega))
  have Q6 := hide (fun W => prefix_c p W (by omega))
  have Q7 := hide (fun W => rprefix_c p W (by omega))
  have Q8 := hide (fun W => quote_c s W (by omega))
  have Q9 := hide (fun W => rquote_c s W (by omega))
  generalize matchB s p = m at *
  generalize prefixP p = x at *
  generalize quoteP s = y at *
  generalize exactP p = z at *
  obtain ⟨a, b⟩ := z
  unfold GivesX at Q1 Q2
  unfold GivesS at Q6 Q7 Q8
  simp only at Q1 Q2
  clear h1 h2
  cases b <;> cases m
  all_goals
    go_enter Try.func3, Try.ntmps3
    go_wp2_with fail
    refine (Q1.out _).mono ?_
    rintro e w1 ⟨rfl, hb⟩
    have HB1 := hide (hb)
    clear hb Q1
    go_wp2_with fail
    refine (Q2.out _).mono ?_
    rintro e w2 ⟨rfl, hb⟩
    have HB2 := hide (Bel.then HB1.out hb)
    clear hb Q2 HB1
    go_wp2_with fail
    refine (Q3.out _).mono ?_
    rintro e w3 ⟨rfl, hb⟩
    have HB3 := hide (Bel.then HB2.out hb)
    clear hb Q3 HB2
    go_wp2_with fail
    refine (Q4.out _).mono ?_
    rintro e w4 ⟨rfl, hb⟩
    have HB4 := hide (Bel.then HB3.out hb)
    clear hb Q4 HB3
    go_wp2_with fail
    refine (Q5.out _).mono ?_
    rintro e w5 ⟨rfl, hb⟩
    have HB5 := hide (Bel.then HB4.out hb)
    clear hb Q5 HB4
    go_wp2_with fail
    refine (Q6.out _).mono ?_
    rintro e w6 ⟨rfl, hb⟩
    have HB6 := hide (Bel.then HB5.out hb)
    clear hb Q6 HB5
    go_wp2_with fail
    refine (Q7.out _).mono ?_
    rintro e w7 ⟨rfl, hb⟩
    have HB7 := hide (Bel.then HB6.out hb)
    clear hb Q7 HB6
    go_wp2_with fail
    refine (Q8.out _).mono ?_
    rintro e w8 ⟨rfl, hb⟩
    have HB8 := hide (Bel.then HB7.out hb)
    clear hb Q8 HB7
    go_wp2_with fail
    refine (Q9.out _).mono ?_
    rintro e w' ⟨rfl, rfl⟩
    clear Q9
    go_wp2_with fail
    go_ret
    exact ⟨ret_bool (by first | rfl | (simp; done)), HB8.out⟩
theorem quote_sgn (s : ByteArray) : signsL (quoteP s).data.toList = s.data.toList.map Sg.byte := by
  have h := signs_quote s.data.toList []
  rw [List.append_nil, show signsL [] = [] from rfl, List.append_nil] at h
  unfold quoteP
  rw [strL_list]
  exact h
theorem plain_bytes : ∀ l : List UInt8, plainL (l.map Sg.byte) = l
  | [] => rfl
  | c :: l => by rw [List.map_cons, plainL, plain_bytes l]
theorem quote_exact (s : ByteArray) : exactP (quoteP s) = (s, true) := by
  unfold exactP
  rw [quote_sgn, plain_bytes, if_neg (by rw [List.length_map]; omega), strL_str]
theorem quote_prefix (s : ByteArray) : prefixP (quoteP s) = s := by
  unfold prefixP
  rw [quote_sgn, plain_bytes, strL_str]
theorem quote_match (s t : ByteArray) : matchB t (quoteP s) = (s.data.toList == t.data.toList) := by
  unfold matchB
  rw [quote_sgn, match_bytes]
theorem quote_size (s : ByteArray) : (quoteP s).size ≤ 2 * s.size := by
  unfold quoteP
  rw [strL_size]
  have := quote_len s.data.toList
  rwa [str_len] at this
theorem beq_of {s t : ByteArray} {e : Bool} (h : s = t ↔ e = true) : (s.toList == t.toList) = e := by
  rw [Bool.eq_iff_iff, ← h]
  constructor
  · intro q
    have := eq_of_beq q
    rw [ByteArray.toList_eq, ByteArray.toList_eq] at this
    exact ByteArray.ext (Array.toList_inj.1 this)
  · intro q
    rw [q]
    simp
theorem str_eq {s t : ByteArray} (h : s.data.toList = t.data.toList) : s = t := by
  apply ByteArray.ext
  exact Array.ext' h
set_option maxRecDepth 100000 in
set_option maxHeartbeats 1000000 in
theorem quotes_w (s t : ByteArray) (w : World) (hs : s.size ≤ maxLen) (ht : t.size ≤ maxLen) : Calls Try.prog 4 #[.string s, .string t] w fun e w' => e = .returned (.bool true) ∧ Below w.heap.size w w' := by
  unfold maxLen at hs ht
  by_cases h1 : 200 < s.size
  · have h1i : (200 : Int) < s.size := by omega
    have Q := hide (fun W => awake_c W)
    go_enter Try.func4, Try.ntmps4
    go_wp2_with fail
    refine (Q.out _).mono ?_
    rintro e w1 ⟨rfl, hb⟩
    have HB1 := hide (hb)
    clear hb Q
    go_wp2_with fail
    go_ret
    exact ⟨ret_bool (by first | rfl | (simp; done)), HB1.out⟩
  by_cases h2 : 200 < t.size
  · have h1i : ¬ (200 : Int) < s.size := by omega
    have h2i : (200 : Int) < t.size := by omega
    have Q := hide (fun W => awake_c W)
    go_enter Try.func4, Try.ntmps4
    go_wp2_with fail
    refine (Q.out _).mono ?_
    rintro e w1 ⟨rfl, hb⟩
    have HB1 := hide (hb)
    clear hb Q
    go_wp2_with fail
    go_ret
    exact ⟨ret_bool (by first | rfl | (simp; done)), HB1.out⟩
  have h1i : ¬ (200 : Int) < s.size := by omega
  have h2i : ¬ (200 : Int) < t.size := by omega
  have hq := quote_size s
  have Q1 := hide (fun W => quote_c s W (by omega))
  have Q2 := hide (fun W => exact_c (quoteP s) W (by omega))
  have Q3 := hide (fun W => awake_c W)
  have Q4 := hide (fun W => match_c s (quoteP s) W (by omega) (by omega))
  have Q5 := hide (fun W => match_c t (quoteP s) W (by omega) (by omega))
  have Q6 := hide (fun W => prefix_c (quoteP s) W (by omega))
  rw [quote_exact] at Q2
  rw [quote_match] at Q4 Q5
  rw [quote_prefix] at Q6
  unfold GivesX at Q2
  unfold GivesS at Q1 Q6
  simp only at Q2
  rw [beq_self_eq_true] at Q4
  generalize quoteP s = y at *
  have hb2 : (s.data.toList == t.data.toList) = decide (s = t) := by
    rw [Bool.eq_iff_iff, beq_iff_eq, decide_eq_true_iff]
    exact ⟨fun h => str_eq h, fun h => by rw [h]⟩
  by_cases hst : s = t
  · subst hst
    rw [beq_self_eq_true] at Q5
    clear h1 h2 hq hb2
    go_enter Try.func4, Try.ntmps4
    go_wp2_with fail
    refine (Q1.out _).mono ?_
    rintro e w1 ⟨rfl, hb⟩
    have HB1 := hide (hb)
    clear hb Q1
    go_wp2_with fail
    refine (Q2.out _).mono ?_
    rintro e w2 ⟨rfl, hb⟩
    have HB2 := hide (Bel.then HB1.out hb)
    clear hb Q2 HB1
    go_wp2_with fail
    refine (Q3.out _).mono ?_
    rintro e w3 ⟨rfl, hb⟩
    have HB3 := hide (Bel.then HB2.out hb)
    clear hb Q3 HB2
    go_wp2_with fail
    refine (Q4.out _).mono ?_
    rintro e w4 ⟨rfl, hb⟩
    have HB4 := hide (Bel.then HB3.out hb)
    clear hb Q4 HB3
    go_wp2_with fail
    refine (Q5.out _).mono ?_
    rintro e w5 ⟨rfl, hb⟩
    have HB5 := hide (Bel.then HB4.out hb)
    clear hb Q5 HB4
    go_wp2_with fail
    refine (Q6.out _).mono ?_
    rintro e w6 ⟨rfl, hb⟩
    have HB6 := hide (Bel.then HB5.out hb)
    clear hb Q6 HB5
    go_wp2_with fail
    go_ret
    exact ⟨ret_bool (by first | rfl | (simp; done)), HB6.out⟩
  · have hf : (s.data.toList == t.data.toList) = false := by rw [hb2]; simpa using hst
    rw [hf] at Q5
    have hf2 : (s.toList == t.toList) = false := beq_of ⟨fun h => absurd h hst, fun h => by cases h⟩
    clear h1 h2 hq hb2 hf hst
    go_enter Try.func4, Try.ntmps4
    go_wp2_with fail
    refine (Q1.out _).mono ?_
    rintro e w1 ⟨rfl, hb⟩
    have HB1 := hide (hb)
    clear hb Q1
    go_wp2_with fail
    refine (Q2.out _).mono ?_
    rintro e w2 ⟨rfl, hb⟩
    have HB2 := hide (Bel.then HB1.out hb)
    clear hb Q2 HB1
    go_wp2_with fail
    refine (Q3.out _).mono ?_
    rintro e w3 ⟨rfl, hb⟩
    have HB3 := hide (Bel.then HB2.out hb)
    clear hb Q3 HB2
    go_wp2_with fail
    refine (Q4.out _).mono ?_
    rintro e w4 ⟨rfl, hb⟩
    have HB4 := hide (Bel.then HB3.out hb)
    clear hb Q4 HB3
    go_wp2_with fail
    refine (Q5.out _).mono ?_
    rintro e w5 ⟨rfl, hb⟩
    have HB5 := hide (Bel.then HB4.out hb)
    clear hb Q5 HB4
    go_wp2_with fail
    refine (Q6.out _).mono ?_
    rintro e w6 ⟨rfl, hb⟩
    have HB6 := hide (Bel.then HB5.out hb)
    clear hb Q6 HB5
    go_wp2_with fail
    go_ret
    exact ⟨ret_bool (by first | rfl | (simp; done)), HB6.out⟩

theorem match_begins : ∀ (l : List Sg) (s : List UInt8), matchS l s = true → (plainL l).isPrefixOf s = true
  | [], _, _ => rfl
  | .one :: _, _, _ => rfl
  | .all :: _, _, _ => rfl
  | .byte b :: r, [], h => by rw [match_single_nil rfl] at h; cases h
  | .byte b :: r, c :: s, h => by
    rw [match_single rfl, Bool.and_eq_true] at h
    have ih := match_begins r s h.2
    have h1 : (b == c) = true := h.1
    show (b :: plainL r).isPrefixOf (c :: s) = true
    rw [List.isPrefixOf, h1, ih]
    rfl
theorem plain_whole : ∀ l : List Sg, (plainL l).length = l.length → l = (plainL l).map Sg.byte
  | [], _ => rfl
  | .one :: r, h => by cases h
  | .all :: r, h => by cases h
  | .byte b :: r, h => by
    rw [plainL, List.length_cons, List.length_cons] at h
    have := plain_whole r (by omega)
    rw [plainL, List.map_cons, ← this]
/-- What the only text of a pattern says of a match. -/
theorem exact_cases (s p : ByteArray) : (∃ a, exactP p = (a, true) ∧ (s = a ↔ matchB s p = true)) ∨ exactP p = (.empty, false) := by
  by_cases h : (plainL (signsL p.data.toList)).length < (signsL p.data.toList).length
  · right
    unfold exactP
    rw [if_pos h]
  · left
    refine ⟨strL (plainL (signsL p.data.toList)), by unfold exactP; rw [if_neg h], ?_⟩
    have hl := plain_len (signsL p.data.toList)
    have hw := plain_whole (signsL p.data.toList) (by omega)
    unfold matchB
    rw [hw, match_bytes, ← hw, beq_iff_eq]
    constructor
    · intro e; rw [e, strL_list]
    · intro e; rw [e, strL_str]
theorem rep_list : ∀ n : Nat, Lib.repeatL [95] n = List.replicate n 95
  | 0 => rfl
  | n + 1 => by rw [Lib.repeatL, rep_list n]; rfl
def repP (n : Nat) : ByteArray := ⟨(Lib.repeatL [95] n).toArray⟩
theorem repP_list (n : Nat) : (repP n).data.toList = List.replicate n 95 := by unfold repP; rw [rep_list]
theorem repP_size (n : Nat) : (repP n).size = n := by rw [← str_len, repP_list, List.length_replicate]
theorem signs_rep : ∀ (n : Nat) (q : List UInt8), signsL (List.replicate n 95 ++ q) = List.replicate n .one ++ signsL q
  | 0, q => rfl
  | n + 1, q => by
    rw [List.replicate_succ, List.cons_append, signs_one (by decide), signs_rep n q]
    rfl
theorem match_rep (s : ByteArray) (n : Nat) : matchB s (repP n) = (s.size == n) := by
  have h := signs_rep n []
  rw [List.append_nil, show signsL [] = [] from rfl, List.append_nil] at h
  unfold matchB
  rw [repP_list, h, match_ones, str_len]
theorem match_rep_all (s : ByteArray) (n : Nat) : matchB s (repP n ++ { data := #[37] }) = decide (n ≤ s.size) := by
  have h := signs_rep n [37]
  have e : (repP n ++ { data := #[37] }).data.toList = List.replicate n 95 ++ [37] := by rw [ByteArray.data_append, Array.toList_append, repP_list]
  unfold matchB
  rw [e, h, Bool.eq_iff_iff, decide_eq_true_iff, match_app_iff, show signsL [37] = [.all] from rfl]
  constructor
  · rintro ⟨x, y, e2, h1, _⟩
    rw [match_ones, beq_iff_eq] at h1
    have := congrArg List.length e2
    rw [str_len, List.length_append] at this
    omega
  · intro hn
    refine ⟨s.data.toList.take n, s.data.toList.drop n, (List.take_append_drop _ _).symm, ?_, (match_all_iff _ _).2 ⟨s.data.toList.drop n, [], by simp, by rw [match_nil]; rfl⟩⟩
    rw [match_ones, beq_iff_eq, List.length_take, str_len]
    omega
theorem match_pct (s : ByteArray) : matchB s { data := #[37] } = true := (match_all_iff [] _).2 ⟨s.data.toList, [], by simp, by rw [match_nil]; rfl⟩
theorem has_prefix {s p : ByteArray} (h : matchB s p = true) : Lib.hasPrefix s.data.toList (prefixP p).data.toList = true := by
  unfold prefixP
  rw [strL_list]
  exact match_begins _ _ h
set_option maxRecDepth 100000 in
set_option maxHeartbeats 2000000 in
theorem begins_w (s p : ByteArray) (k : Nat) (w : World) (hs : s.size ≤ maxLen) (hp : p.size ≤ maxLen) (hk : k ≤ 255) : Calls Try.prog 5 #[.string s, .string p, .int .u8 (k : Int)] w fun e w' => e = .returned (.bool true) ∧ Below w.heap.size w w' := by
  unfold maxLen at hs hp
  by_cases h1 : 200 < s.size
  · have h1i : (200 : Int) < s.size := by omega
    have Q := hide (fun W => awake_c W)
    go_enter Try.func5, Try.ntmps5
    go_wp2_with fail
    refine (Q.out _).mono ?_
    rintro e w1 ⟨rfl, hb⟩
    have HB1 := hide (hb)
    clear hb Q
    go_wp2_with fail
    go_ret
    exact ⟨ret_bool (by first | rfl | (simp; done)), HB1.out⟩
  by_cases h2 : 200 < p.size
  · have h1i : ¬ (200 : Int) < s.size := by omega
    have h2i : (200 : Int) < p.size := by omega
    have Q := hide (fun W => awake_c W)
    go_enter Try.func5, Try.ntmps5
    go_wp2_with fail
    refine (Q.out _).mono ?_
    rintro e w1 ⟨rfl, hb⟩
    have HB1 := hide (hb)
    clear hb Q
    go_wp2_with fail
    go_ret
    exact ⟨ret_bool (by first | rfl | (simp; done)), HB1.out⟩
  have h1i : ¬ (200 : Int) < s.size := by omega
  have h2i : ¬ (200 : Int) < p.size := by omega
  have hrz := repP_size k
  have hkw : IntKind.i64.wrap (k : Int) = (k : Int) := IntWalk.i64_in _ (by omega)
  have Q1 := hide (fun W => exact_c p W (by omega))
  have Q2 := hide (fun W => match_c s p W (by omega) (by omega))
  have Q3 := hide (fun W => prefix_c p W (by omega))
  have Q4 := hide (fun W => hasPrefixL_c s (prefixP p) W)
  have Q5 := hide (fun W => awake_c W)
  have Q6 := hide (fun W => match_c s { data := #[37] } W (by omega) (by decide))
  have Q7 : Hid (∀ W, Calls Try.prog 17 #[.string { data := #[95] }, .int .i64 k] W fun e w' => e = .returned (.string (repP k)) ∧ Below W.heap.size W w') := fun W => repeat_c { data := #[95] } k W (by omega) (by decide)
  have Q8 := hide (fun W => match_c s (repP k) W (by omega) (by omega))
  have Q9 := Q7
  have Q10 := hide (fun W => match_c s (repP k ++ { data := #[37] }) W (by omega) (by rw [ByteArray.size_append]; show (repP k).size + 1 ≤ _; omega))
  rw [match_pct] at Q6
  rw [match_rep] at Q8
  rw [match_rep_all] at Q10
  have hpm := @has_prefix s p
  have hec := exact_cases s p
  unfold GivesX at Q1
  unfold GivesS at Q3
  generalize prefixP p = x at *
  generalize hR : repP k = r at *
  have hrz2 : (r.size : Int) ≤ 255 := by omega
  clear hR hrz
  generalize matchB s p = m at *
  generalize exactP p = z at *
  have hl : (((s.size : Int) == (k : Int)) = (s.size == k)) := by rw [Bool.eq_iff_iff, beq_iff_eq, beq_iff_eq]; omega
  have hE : ∃ e1 e2, Hid ((s.size == k) = e1) ∧ Hid (decide (k ≤ s.size) = e2) := ⟨_, _, rfl, rfl⟩
  obtain ⟨e1, e2, he1, he2⟩ := hE
  rw [he1.out] at hl Q8
  rw [he2.out] at Q10
  have hl1 := he1.out
  have hl2 := he2.out
  have hl3 : decide ((k : Int) ≤ (s.size : Int)) = e2 := by rw [← hl2]; simp
  have hm : (m = true → Lib.hasPrefix s.data.toList x.data.toList = true) := hpm
  clear hpm h1 h2
  rcases hec with ⟨a, rfl, hsa⟩ | rfl
  · have hbe := beq_of hsa
    clear hsa
    simp only at Q1
    cases m with
    | true =>
      rw [hm rfl] at Q4
      clear hm
      cases e1 <;> cases e2
      all_goals
        go_enter Try.func5, Try.ntmps5
        go_wp2_with fail
        refine (Q1.out _).mono ?_
        rintro e w1 ⟨rfl, hb⟩
        have HB1 := hide (hb)
        clear hb Q1
        go_wp2_with fail
        refine (Q2.out _).mono ?_
        rintro e w2 ⟨rfl, hb⟩
        have HB2 := hide (Bel.then HB1.out hb)
        clear hb Q2 HB1
        go_wp2_with fail
        refine (Q3.out _).mono ?_
        rintro e w3 ⟨rfl, hb⟩
        have HB3 := hide (Bel.then HB2.out hb)
        clear hb Q3 HB2
        go_wp2_with fail
        refine (Q4.out _).mono ?_
        rintro e w' ⟨rfl, rfl⟩
        clear Q4
        go_wp2_with fail
        refine (Q5.out _).mono ?_
        rintro e w4 ⟨rfl, hb⟩
        have HB4 := hide (Bel.then HB3.out hb)
        clear hb Q5 HB3
        go_wp2_with fail
        refine (Q6.out _).mono ?_
        rintro e w5 ⟨rfl, hb⟩
        have HB5 := hide (Bel.then HB4.out hb)
        clear hb Q6 HB4
        go_wp2_with fail
        refine (Q7.out _).mono ?_
        rintro e w6 ⟨rfl, hb⟩
        have HB6 := hide (Bel.then HB5.out hb)
        clear hb Q7 HB5
        go_wp2_with fail
        refine (Q8.out _).mono ?_
        rintro e w7 ⟨rfl, hb⟩
        have HB7 := hide (Bel.then HB6.out hb)
        clear hb Q8 HB6
        go_wp2_with fail
        refine (Q9.out _).mono ?_
        rintro e w8 ⟨rfl, hb⟩
        have HB8 := hide (Bel.then HB7.out hb)
        clear hb Q9 HB7
        go_wp2_with fail
        refine (Q10.out _).mono ?_
        rintro e w9 ⟨rfl, hb⟩
        have HB9 := hide (Bel.then HB8.out hb)
        clear hb Q10 HB8
        go_wp2_with fail
        go_ret
        exact ⟨ret_bool (by first | rfl | (simp; done)), HB9.out⟩
    | false =>
      clear hm
      cases e1 <;> cases e2
      all_goals
        go_enter Try.func5, Try.ntmps5
        go_wp2_with fail
        refine (Q1.out _).mono ?_
        rintro e w1 ⟨rfl, hb⟩
        have HB1 := hide (hb)
        clear hb Q1
        go_wp2_with fail
        refine (Q2.out _).mono ?_
        rintro e w2 ⟨rfl, hb⟩
        have HB2 := hide (Bel.then HB1.out hb)
        clear hb Q2 HB1
        go_wp2_with fail
        refine (Q5.out _).mono ?_
        rintro e w3 ⟨rfl, hb⟩
        have HB3 := hide (Bel.then HB2.out hb)
        clear hb Q5 HB2
        go_wp2_with fail
        refine (Q6.out _).mono ?_
        rintro e w4 ⟨rfl, hb⟩
        have HB4 := hide (Bel.then HB3.out hb)
        clear hb Q6 HB3
        go_wp2_with fail
        refine (Q7.out _).mono ?_
        rintro e w5 ⟨rfl, hb⟩
        have HB5 := hide (Bel.then HB4.out hb)
        clear hb Q7 HB4
        go_wp2_with fail
        refine (Q8.out _).mono ?_
        rintro e w6 ⟨rfl, hb⟩
        have HB6 := hide (Bel.then HB5.out hb)
        clear hb Q8 HB5
        go_wp2_with fail
        refine (Q9.out _).mono ?_
        rintro e w7 ⟨rfl, hb⟩
        have HB7 := hide (Bel.then HB6.out hb)
        clear hb Q9 HB6
        go_wp2_with fail
        refine (Q10.out _).mono ?_
        rintro e w8 ⟨rfl, hb⟩
        have HB8 := hide (Bel.then HB7.out hb)
        clear hb Q10 HB7
        go_wp2_with fail
        go_ret
        exact ⟨ret_bool (by first | rfl | (simp; done)), HB8.out⟩
  · simp only at Q1
    cases m with
    | true =>
      rw [hm rfl] at Q4
      clear hm
      cases e1 <;> cases e2
      all_goals
        go_enter Try.func5, Try.ntmps5
        go_wp2_with fail
        refine (Q1.out _).mono ?_
        rintro e w1 ⟨rfl, hb⟩
        have HB1 := hide (hb)
        clear hb Q1
        go_wp2_with fail
        refine (Q2.out _).mono ?_
        rintro e w2 ⟨rfl, hb⟩
        have HB2 := hide (Bel.then HB1.out hb)
        clear hb Q2 HB1
        go_wp2_with fail
        refine (Q3.out _).mono ?_
        rintro e w3 ⟨rfl, hb⟩
        have HB3 := hide (Bel.then HB2.out hb)
        clear hb Q3 HB2
        go_wp2_with fail
        refine (Q4.out _).mono ?_
        rintro e w' ⟨rfl, rfl⟩
        clear Q4
        go_wp2_with fail
        refine (Q5.out _).mono ?_
        rintro e w4 ⟨rfl, hb⟩
        have HB4 := hide (Bel.then HB3.out hb)
        clear hb Q5 HB3
        go_wp2_with fail
        refine (Q6.out _).mono ?_
        rintro e w5 ⟨rfl, hb⟩
        have HB5 := hide (Bel.then HB4.out hb)
        clear hb Q6 HB4
        go_wp2_with fail
        refine (Q7.out _).mono ?_
        rintro e w6 ⟨rfl, hb⟩
        have HB6 := hide (Bel.then HB5.out hb)
        clear hb Q7 HB5
        go_wp2_with fail
        refine (Q8.out _).mono ?_
        rintro e w7 ⟨rfl, hb⟩
        have HB7 := hide (Bel.then HB6.out hb)
        clear hb Q8 HB6
        go_wp2_with fail
        refine (Q9.out _).mono ?_
        rintro e w8 ⟨rfl, hb⟩
        have HB8 := hide (Bel.then HB7.out hb)
        clear hb Q9 HB7
        go_wp2_with fail
        refine (Q10.out _).mono ?_
        rintro e w9 ⟨rfl, hb⟩
        have HB9 := hide (Bel.then HB8.out hb)
        clear hb Q10 HB8
        go_wp2_with fail
        go_ret
        exact ⟨ret_bool (by first | rfl | (simp; done)), HB9.out⟩
    | false =>
      clear hm
      cases e1 <;> cases e2
      all_goals
        go_enter Try.func5, Try.ntmps5
        go_wp2_with fail
        refine (Q1.out _).mono ?_
        rintro e w1 ⟨rfl, hb⟩
        have HB1 := hide (hb)
        clear hb Q1
        go_wp2_with fail
        refine (Q2.out _).mono ?_
        rintro e w2 ⟨rfl, hb⟩
        have HB2 := hide (Bel.then HB1.out hb)
        clear hb Q2 HB1
        go_wp2_with fail
        refine (Q5.out _).mono ?_
        rintro e w3 ⟨rfl, hb⟩
        have HB3 := hide (Bel.then HB2.out hb)
        clear hb Q5 HB2
        go_wp2_with fail
        refine (Q6.out _).mono ?_
        rintro e w4 ⟨rfl, hb⟩
        have HB4 := hide (Bel.then HB3.out hb)
        clear hb Q6 HB3
        go_wp2_with fail
        refine (Q7.out _).mono ?_
        rintro e w5 ⟨rfl, hb⟩
        have HB5 := hide (Bel.then HB4.out hb)
        clear hb Q7 HB4
        go_wp2_with fail
        refine (Q8.out _).mono ?_
        rintro e w6 ⟨rfl, hb⟩
        have HB6 := hide (Bel.then HB5.out hb)
        clear hb Q8 HB5
        go_wp2_with fail
        refine (Q9.out _).mono ?_
        rintro e w7 ⟨rfl, hb⟩
        have HB7 := hide (Bel.then HB6.out hb)
        clear hb Q9 HB6
        go_wp2_with fail
        refine (Q10.out _).mono ?_
        rintro e w8 ⟨rfl, hb⟩
        have HB8 := hide (Bel.then HB7.out hb)
        clear hb Q10 HB7
        go_wp2_with fail
        go_ret
        exact ⟨ret_bool (by first | rfl | (simp; done)), HB8.out⟩
end Go.Proofs.Ytcojhpfnehfppaa
