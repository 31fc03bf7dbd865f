/- The reference's Apply in full; ScalarApplies' walk. -/
import Derived.Test.YtlkeghfdpbfhbaaScV
namespace Go.Proofs.Ytlkeghfdpbfhbaa
set_option linter.unusedVariables false
open Go.ChangeShapes Go.WideShapes Go.ChangeAt Go.RowKit

set_option maxRecDepth 100000 in
set_option maxHeartbeats 4000000 in
theorem rapplyOne_c (op : Int) (hop : op ≠ 24) (nm : ByteArray) (a : ValV) (A : Option Addr) (c : Nat) (w : World) (h : RowV w w.heap.size A 1 c [a]) : Calls Try.prog 11 #[.int .i64 op, .string nm, .slice A 1 c] w (GivesV w (oneR op a)) := by
  obtain ⟨blk, off, rfl, hlt, hcc⟩ := row_get h (by omega)
  have hc0 := hcc 0 _ rfl
  have l0 := hc0 0 _ rfl
  have l1 := hc0 1 _ rfl
  have l2 := hc0 2 _ rfl
  simp only [Nat.zero_mul, Nat.zero_add, Nat.add_zero] at l0 l1 l2
  have C0 := hide (Cl.kept (show Cl w blk off a.kind a.num a.str from ⟨hlt, l0, l1, l2⟩) (Bel.one w zO))
  have HX := hide (vb_one w)
  have HB := hide (Bel.one w zO)
  clear hcc hc0 hlt l0 l1 l2 h
  have Q := hide (fun W => rone_c op a W)
  generalize oneR op a = r at *
  obtain ⟨k, n, s⟩ := a
  unfold valAgg at Q
  simp only at Q C0
  rcases (show (op = 21) ∨ (op = 22) ∨ (op = 23) ∨ ((op == 21) = false ∧ (op == 22) = false ∧ (op == 23) = false ∧ (op == 24) = false) by
    simp only [beq_eq_false_iff_ne]
    omega) with rfl | rfl | rfl | ⟨e1, e2, e3, e4⟩
  all_goals
    clear hop
    go_enter Try.func11, Try.ntmps11
    go_upto_region 1 with (fail)
    generalize w.alloc (.cells #[.int .i64 0, .int .i64 0, .string { data := #[] }] 26) = w1 at *
    obtain ⟨_, l0, l1, l2⟩ := C0.out
    go_wp2_with fail
    refine (Q.out _).mono ?_
    rintro e w2 ⟨rfl, hb⟩
    replace HX := hide (HX.out.kept hb)
    replace HB := hide (Bel.then HB.out hb)
    clear hb
    clear l0 l1 l2 C0
    obtain ⟨⟨c0, c1, c2⟩, ⟨y0, y1, y2⟩⟩ := HX.out.all
    have HS := hide (HX.out.set3 (r))
    have HBS := hide (below_setV HB.out (Nat.le_refl _) (r))
    clear HX HB 
    unfold valAgg
    go_wp2_with fail
    exact end_v Try.results11 rfl rfl HS.out ⟨rfl, HBS.out⟩
set_option maxRecDepth 100000 in
set_option maxHeartbeats 4000000 in
theorem rapplyTwo_c (op : Int) (hop : op ≠ 24 ∧ op ≠ 21 ∧ op ≠ 23) (nm : ByteArray) (a b : ValV) (A : Option Addr) (c : Nat) (w : World) (h : RowV w w.heap.size A 2 c [a, b]) (ha : a.str.size ≤ 1048576) (hb : b.str.size ≤ 1048576) : Calls Try.prog 11 #[.int .i64 op, .string nm, .slice A 2 c] w (GivesV w (twoR op a b)) := by
  have HX := hide (vb_one w)
  have HB := hide (Bel.one w zO)
  have HR := hide (h.kept (Bel.one w zO))
  clear h
  have Q := hide (fun W h => rtwo_c op a b A c W h ha hb)
  generalize twoR op a b = r at *
  clear ha hb
  rcases (show (op = 22) ∨ ((op == 21) = false ∧ (op == 22) = false ∧ (op == 23) = false ∧ (op == 24) = false) by
    simp only [beq_eq_false_iff_ne]
    omega) with rfl | ⟨e1, e2, e3, e4⟩
  all_goals
    clear hop
    go_enter Try.func11, Try.ntmps11
    go_upto_region 1 with (fail)
    generalize w.alloc (.cells #[.int .i64 0, .int .i64 0, .string { data := #[] }] 26) = w1 at *
    go_wp2_with fail
    refine (Q.out _ HR.out).mono ?_
    rintro e w2 ⟨rfl, hb⟩
    replace HX := hide (HX.out.kept hb)
    replace HB := hide (Bel.then HB.out hb)
    clear hb
    clear HR
    obtain ⟨⟨c0, c1, c2⟩, ⟨y0, y1, y2⟩⟩ := HX.out.all
    have HS := hide (HX.out.set3 (r))
    have HBS := hide (below_setV HB.out (Nat.le_refl _) (r))
    clear HX HB 
    unfold valAgg
    go_wp2_with fail
    exact end_v Try.results11 rfl rfl HS.out ⟨rfl, HBS.out⟩
set_option maxRecDepth 100000 in
set_option maxHeartbeats 4000000 in
theorem rapplyNo_c (op : Int) (nm : ByteArray) (A : Option Addr) (n c : Nat) (hn : n ≠ 1 ∧ n ≠ 2) (hop : op ≠ 24 ∧ (op = 22 → n ≠ 3) ∧ (op = 21 ∨ op = 23 → n = 0)) (w : World) : Calls Try.prog 11 #[.int .i64 op, .string nm, .slice A n c] w (GivesV w nullV) := by
  have HX := hide (vb_one w)
  have HB := hide (Bel.one w zO)
  have n1 : ((n : Int) == 1) = false := by rw [beq_eq_false_iff_ne]; omega
  have n2 : ((n : Int) == 2) = false := by rw [beq_eq_false_iff_ne]; omega
  rcases (show (op = 21 ∧ ¬ (1 : Int) < n) ∨ (op = 22 ∧ ((n : Int) == 3) = false) ∨ (op = 23 ∧ ¬ (1 : Int) < n) ∨ ((op == 21) = false ∧ (op == 22) = false ∧ (op == 23) = false ∧ (op == 24) = false) by
    simp only [beq_eq_false_iff_ne]
    omega) with ⟨rfl, n3⟩ | ⟨rfl, n3⟩ | ⟨rfl, n3⟩ | ⟨e1, e2, e3, e4⟩
  all_goals
    clear hop hn
    go_enter Try.func11, Try.ntmps11
    go_upto_region 1 with (fail)
    generalize w.alloc (.cells #[.int .i64 0, .int .i64 0, .string { data := #[] }] 26) = w1 at *
    obtain ⟨⟨c0, c1, c2⟩, ⟨y0, y1, y2⟩⟩ := HX.out.all
    have HS := hide (HX.out.set3 nullV)
    have HBS := hide (below_setV HB.out (Nat.le_refl _) nullV)
    clear HX HB
    go_wp2_with fail
    exact end_v Try.results11 rfl rfl HS.out ⟨rfl, HBS.out⟩
theorem applyV_one {op : Int} (h : op ≠ 24) (nm : ByteArray) (a : ValV) : applyV op nm [a] = oneR op a := by
  unfold applyV oneR
  by_cases h1 : op = 3 ∨ op = 4 ∨ op = 19
  · rw [if_pos h1, if_pos h1]
  · rw [if_neg h1, if_neg h1, if_neg h]
    simp only [ite_self]
theorem applyV_two {op : Int} (h : op ≠ 24 ∧ op ≠ 21 ∧ op ≠ 23) (nm : ByteArray) (a b : ValV) : applyV op nm [a, b] = twoR op a b := by
  unfold applyV twoR
  by_cases h1 : op = 3 ∨ op = 4 ∨ op = 19
  · rw [if_pos h1, if_neg (by omega)]
  · rw [if_neg h1, if_neg h.1, if_neg h.2.1, if_neg h.2.2]
    simp only [ite_self]
theorem applyV_no {op : Int} (nm : ByteArray) (l : List ValV) (hl : l = [] ∨ ∃ x y z m, l = x :: y :: z :: m) (h : op ≠ 24 ∧ (op = 22 → l.length ≠ 3) ∧ (op = 21 ∨ op = 23 → l.length = 0)) : applyV op nm l = nullV := by
  unfold applyV
  rcases hl with rfl | ⟨x, y, z, m, rfl⟩
  · rw [if_neg h.1]
    simp only [ite_self]
  · have h1 : op ≠ 21 := fun e => by have := h.2.2 (.inl e); simp at this
    have h2 : op ≠ 23 := fun e => by have := h.2.2 (.inr e); simp at this
    rw [if_neg h.1, if_neg h1, if_neg h2]
    by_cases h3 : op = 22
    · match m, h with
      | [], h => exact absurd rfl (h.2.1 h3)
      | _ :: _, h => simp only [ite_self]
    · rw [if_neg h3]
      simp only [ite_self]
theorem rapply_c (op : Int) (nm : ByteArray) (A : Option Addr) (n c : Nat) (l : List ValV) (w : World) (h : RowV w w.heap.size A n c l) (hs : ∀ v ∈ l, v.str.size ≤ 1048576) : Calls Try.prog 11 #[.int .i64 op, .string nm, .slice A n c] w (GivesV w (applyV op nm l)) := by
  have hlen := h.len
  by_cases h24 : op = 24
  · subst h24
    exact rapplyF_c nm A n c l w h hs
  match l, hlen, h, hs with
  | [], hlen, h, hs =>
    simp only [List.length_nil] at hlen
    rw [applyV_no nm [] (.inl rfl) ⟨h24, fun _ => by simp, fun _ => rfl⟩]
    exact rapplyNo_c op nm A n c (by omega) ⟨h24, by omega, by omega⟩ w
  | [a], hlen, h, hs =>
    simp only [List.length_singleton] at hlen
    subst hlen
    rw [applyV_one h24]
    exact rapplyOne_c op h24 nm a A c w h
  | [a, b], hlen, h, hs =>
    simp only [List.length_cons, List.length_nil, Nat.zero_add, Nat.reduceAdd] at hlen
    subst hlen
    by_cases h21 : op = 21
    · subst h21
      exact rapplyIn_c nm a [b] A 2 c w h (by simp) (hs a (by simp)) (fun v hv => hs v (List.mem_cons_of_mem _ hv))
    by_cases h23 : op = 23
    · subst h23
      exact rapplyCase_c nm [a, b] A 2 c w h (by omega)
    rw [applyV_two ⟨h24, h21, h23⟩]
    exact rapplyTwo_c op ⟨h24, h21, h23⟩ nm a b A c w h (hs a (by simp)) (hs b (by simp))
  | a :: b :: d :: m, hlen, h, hs =>
    simp only [List.length_cons] at hlen
    by_cases h21 : op = 21
    · subst h21
      exact rapplyIn_c nm a (b :: d :: m) A n c w h (by simp) (hs a (by simp)) (fun v hv => hs v (List.mem_cons_of_mem _ hv))
    by_cases h23 : op = 23
    · subst h23
      exact rapplyCase_c nm (a :: b :: d :: m) A n c w h (by omega)
    by_cases h22 : op = 22 ∧ m = []
    · obtain ⟨rfl, rfl⟩ := h22
      simp only [List.length_nil, Nat.zero_add, Nat.reduceAdd] at hlen
      subst hlen
      exact rapply3_c nm a b d A c w h (hs a (by simp)) (hs b (by simp)) (hs d (by simp))
    have hm : op = 22 → m.length ≠ 0 := fun e he => h22 ⟨e, List.eq_nil_of_length_eq_zero he⟩
    rw [applyV_no nm (a :: b :: d :: m) (.inr ⟨a, b, d, m, rfl⟩) ⟨h24, fun e => by have := hm e; simp only [List.length_cons]; omega, fun e => by omega⟩]
    exact rapplyNo_c op nm A n c (by omega) ⟨h24, fun e => by have := hm e; omega, by omega⟩ w
set_option maxRecDepth 100000 in
set_option maxHeartbeats 2000000 in
theorem applies_c (op : Int) (nm : ByteArray) (A : Option Addr) (n c : Nat) (l : List ValV) (w : World) (h : RowV w w.heap.size A n c l) : Calls Try.prog 3 #[.int .i64 op, .string nm, .slice A n c] w fun e w' => e = .returned (.bool true) ∧ Below w.heap.size w w' := by
  have QS := hide (fun W h => short_c A n c l W h)
  have HR := hide h
  clear h
  cases hsh : shortP l with
  | false =>
    rw [hsh] at QS
    go_enter Try.func3, Try.ntmps3
    go_wp2_with fail
    refine (QS.out _ HR.out).mono ?_
    rintro e w2 ⟨rfl, rfl⟩
    go_wp2_with fail
    refine (awake_c _).mono ?_
    rintro e w3 ⟨rfl, hb⟩
    go_wp2_with fail
    go_ret
    exact ⟨rfl, hb⟩
  | true =>
    rw [hsh] at QS
    have hs : ∀ v ∈ l, v.str.size ≤ 1048576 := fun v hv => by
      unfold shortP at hsh
      have := List.all_eq_true.1 hsh v hv
      have := of_decide_eq_true this
      omega
    have Q1 := hide (fun W h => apply_c op nm A n c l W h hs)
    have Q2 := hide (fun W h => rapply_c op nm A n c l W h hs)
    generalize applyV op nm l = v at *
    have E1 := hide (valEq_same v.kind v.num v.str)
    unfold GivesV valAgg at Q1 Q2
    clear hs hsh
    go_enter Try.func3, Try.ntmps3
    go_wp2_with fail
    refine (QS.out _ HR.out).mono ?_
    rintro e w2 ⟨rfl, rfl⟩
    go_wp2_with fail
    refine (awake_c _).mono ?_
    rintro e w3 ⟨rfl, hb⟩
    replace HR := hide (HR.out.kept hb)
    go_wp2_with fail
    refine (Q1.out _ HR.out).mono ?_
    rintro e w4 ⟨rfl, hb2⟩
    replace HR := hide (HR.out.kept hb2)
    go_wp2_with fail
    refine (Q2.out _ HR.out).mono ?_
    rintro e w5 ⟨rfl, hb3⟩
    have e1 := E1.out
    have HB := hide (Bel.then (Bel.then hb hb2) hb3)
    clear hb hb2 hb3
    go_wp2_with fail
    go_ret
    exact ⟨rfl, HB.out⟩
end Go.Proofs.Ytlkeghfdpbfhbaa
