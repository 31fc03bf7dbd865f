/- The contracts of scalar.callOne, call, Apply for whatever names, operators and values; of the law's short. -/
import Derived.Test.YtlkeghfdpbfhbaaScK
namespace Go.Proofs.Ytlkeghfdpbfhbaa
set_option linter.unusedVariables false
open Go.ChangeShapes Go.WideShapes Go.ChangeAt Go.RowKit

theorem bel_eq {a b : World} (h : a = b) : Below a.heap.size a b := h ▸ Below.refl _ _
def isN (a : ByteArray) (b : List UInt8) : Bool := a.toList == b
theorem isN_eq {a : ByteArray} {b : List UInt8} (h : isN a b = true) : a = ⟨b.toArray⟩ := by
  unfold isN at h
  have h1 := eq_of_beq h
  rw [ByteArray.toList_eq] at h1
  obtain ⟨a⟩ := a
  rw [← h1]
theorem isN_other {a : ByteArray} {x y : List UInt8} (h : isN a x = true) (hxy : (x == y) = false) : isN a y = false := by
  unfold isN at *
  rw [eq_of_beq h]
  exact hxy
def lowL (l : List UInt8) : List UInt8 := l.map (shB 65 90 97)
def oneV (nm : ByteArray) (a : ValV) : ValV :=
  if isN nm [97, 98, 115] = true ∧ a.kind = 2 then (if a.num < 0 then toldV (negP a.num) else toldV (a.num, inN a.num))
  else if a.kind = 3 then
    (if isN nm [108, 101, 110, 103, 116, 104] = true then numV a.str.size else if isN nm [108, 111, 119, 101, 114] = true then strV (strL (lowL a.str.data.toList)) else if isN nm [117, 112, 112, 101, 114] = true then strV (strL (upL a.str.data.toList)) else nullV)
  else nullV
def nullifV (a b : ValV) : ValV := if (compV a b).2 = true ∧ (compV a b).1 = 0 then nullV else a
def callV (nm : ByteArray) (l : List ValV) : ValV :=
  if isN nm [99, 111, 97, 108, 101, 115, 99, 101] = true then coalV l else
  match l with
  | [a] => oneV nm a
  | [a, b] => if isN nm [110, 117, 108, 108, 105, 102] = true then nullifV a b else nullV
  | _ => nullV
def applyV (op : Int) (nm : ByteArray) (l : List ValV) : ValV :=
  if op = 3 ∨ op = 4 ∨ op = 19 then (match l with | [a] => unV op a | _ => nullV)
  else if (5 ≤ op ∧ op ≤ 18) ∨ op = 20 then (match l with | [a, b] => binV op a b | _ => nullV)
  else if op = 22 then (match l with | [a, b, c] => betV a b c | _ => nullV)
  else if op = 21 then (match l with | a :: b :: l => inV a (b :: l) | _ => nullV)
  else if op = 23 then (match l with | a :: b :: l => chooseV (a :: b :: l) | _ => nullV)
  else if op = 24 then callV nm l else nullV
/-- Which name it is. -/
theorem one_names (nm : ByteArray) : (isN nm [97, 98, 115] = true ∧ isN nm [108, 101, 110, 103, 116, 104] = false ∧ isN nm [108, 111, 119, 101, 114] = false ∧ isN nm [117, 112, 112, 101, 114] = false) ∨ (isN nm [97, 98, 115] = false ∧ isN nm [108, 101, 110, 103, 116, 104] = true ∧ isN nm [108, 111, 119, 101, 114] = false ∧ isN nm [117, 112, 112, 101, 114] = false) ∨
    (isN nm [97, 98, 115] = false ∧ isN nm [108, 101, 110, 103, 116, 104] = false ∧ isN nm [108, 111, 119, 101, 114] = true ∧ isN nm [117, 112, 112, 101, 114] = false) ∨ (isN nm [97, 98, 115] = false ∧ isN nm [108, 101, 110, 103, 116, 104] = false ∧ isN nm [108, 111, 119, 101, 114] = false ∧ isN nm [117, 112, 112, 101, 114] = true) ∨ (isN nm [97, 98, 115] = false ∧ isN nm [108, 101, 110, 103, 116, 104] = false ∧ isN nm [108, 111, 119, 101, 114] = false ∧ isN nm [117, 112, 112, 101, 114] = false) := by
  cases h1 : isN nm [97, 98, 115] with
  | true => exact .inl ⟨rfl, isN_other h1 (by decide), isN_other h1 (by decide), isN_other h1 (by decide)⟩
  | false =>
    cases h2 : isN nm [108, 101, 110, 103, 116, 104] with
    | true => exact .inr (.inl ⟨rfl, rfl, isN_other h2 (by decide), isN_other h2 (by decide)⟩)
    | false =>
      cases h3 : isN nm [108, 111, 119, 101, 114] with
      | true => exact .inr (.inr (.inl ⟨rfl, rfl, rfl, isN_other h3 (by decide)⟩))
      | false =>
        cases h4 : isN nm [117, 112, 112, 101, 114] with
        | true => exact .inr (.inr (.inr (.inl ⟨rfl, rfl, rfl, rfl⟩)))
        | false => exact .inr (.inr (.inr (.inr ⟨rfl, rfl, rfl, rfl⟩)))
set_option maxRecDepth 100000 in
set_option maxHeartbeats 2000000 in
theorem callOne_c (nm : ByteArray) (a : ValV) (w : World) (hm : a.str.size ≤ 1048576) : Calls Try.prog 53 #[.string nm, valAgg a] w (GivesV w (oneV nm a)) := by
  obtain ⟨h1, h2, h3⟩ := vb_two w a.kind a.num a.str
  have H1 := hide h1
  have HX := hide h2
  have HB := hide h3
  clear h1 h2 h3
  have QG := hide (fun W => neg_c a.num W)
  have QM := hide (fun p W => number_c p W)
  have QI := hide (fun W => in_c a.num W)
  have QN := hide (fun (x : Int) W => numv_c x W)
  have QS1 := hide (fun W => shifted_c a.str 65 90 97 W hm (by decide))
  have QS2 := hide (fun W => shifted_c a.str 97 122 65 W hm (by decide))
  have QV := hide (fun u W => strv_c u W)
  have e1 : ((97 : UInt8).toNat : Int) = 97 := rfl
  have e2 : ((122 : UInt8).toNat : Int) = 122 := rfl
  have e3 : ((65 : UInt8).toNat : Int) = 65 := rfl
  have e4 : ((90 : UInt8).toNat : Int) = 90 := rfl
  rw [e1, e3, e4] at QS1
  rw [e1, e2, e3] at QS2
  clear e1 e2 e3 e4
  obtain ⟨k, n, s⟩ := a
  unfold oneV lowL upL
  unfold valAgg
  simp only at QG QI QS1 QS2 H1 HX HB ⊢
  generalize negP n = p at *
  generalize inN n = q at *
  generalize strL (s.data.toList.map (shB 65 90 97)) = u1 at *
  generalize strL (s.data.toList.map (shB 97 122 65)) = u2 at *
  rcases (show (k = 2 ∧ (k == 2) = true ∧ (k == 3) = false) ∨ (k = 3 ∧ (k == 2) = false ∧ (k == 3) = true) ∨ (¬ k = 2 ∧ ¬ k = 3 ∧ (k == 2) = false ∧ (k == 3) = false) by
    simp only [beq_eq_false_iff_ne, beq_iff_eq]
    omega) with ⟨g2, k2, k3⟩ | ⟨g3, k2, k3⟩ | ⟨g2, g3, k2, k3⟩
  · skip
    rcases one_names nm with ⟨m1, m2, m3, m4⟩ | ⟨m1, m2, m3, m4⟩ | ⟨m1, m2, m3, m4⟩ | ⟨m1, m2, m3, m4⟩ | ⟨m1, m2, m3, m4⟩
    · rw [if_pos ⟨m1, g2⟩]
      clear g2
      unfold isN at m1 m2 m3 m4
      by_cases hn : n < 0
      · rw [if_pos hn]
        go_enter Try.func53, Try.ntmps53
        go_upto_region 1 with (fail)
        generalize (w.alloc (.cells #[.int .i64 k, .int .i64 n, .string s] 26)).alloc (.cells #[.int .i64 0, .int .i64 0, .string { data := #[] }] 26) = w1 at *
        obtain ⟨⟨c0, c1, c2⟩, _⟩ := H1.out.all
        go_wp2_with fail
        refine (QG.out _).mono ?_
        rintro e w2 ⟨rfl, rfl⟩
        go_wp2_with fail
        refine (QM.out _ _).mono ?_
        rintro e w3 ⟨rfl, hb⟩
        replace HX := hide (HX.out.kept hb)
        replace HB := hide (Bel.then HB.out hb)
        clear hb
        clear c0 c1 c2 H1
        generalize toldV _ = r at *
        obtain ⟨⟨c0, c1, c2⟩, ⟨y0, y1, y2⟩⟩ := HX.out.all
        have HS := hide (HX.out.set3 (r))
        have HBS := hide (below_setV HB.out (show w.heap.size ≤ w.heap.size + 1 by omega) (r))
        clear HX HB 
        unfold valAgg
        go_wp2_with fail
        exact end_v Try.results53 rfl rfl HS.out ⟨rfl, HBS.out⟩
      · rw [if_neg hn]
        have QM2 := hide (fun W => QM.out (n, q) W)
        obtain ⟨R, hR⟩ : ∃ R, toldV (n, q) = R := ⟨_, rfl⟩
        rw [hR] at QM2 ⊢
        simp only at QM2
        clear hR
        go_enter Try.func53, Try.ntmps53
        go_upto_region 1 with (fail)
        generalize (w.alloc (.cells #[.int .i64 k, .int .i64 n, .string s] 26)).alloc (.cells #[.int .i64 0, .int .i64 0, .string { data := #[] }] 26) = w1 at *
        obtain ⟨⟨c0, c1, c2⟩, _⟩ := H1.out.all
        go_upto_region 4 with (fail)
        clear c0 c1 c2
        refine wp_region_held_drew (S := (fun w' => VB w' w.heap.size ⟨k, n, s⟩ ∧ (∃ u, VB w' (w.heap.size + 1) u) ∧ Below w.heap.size w w')) (by kernel_rfl) (⟨H1.out.kept (Below.refl _ _).drew, ⟨_, HX.out.kept (Below.refl _ _).drew⟩, HB.out.drew⟩) (fun hHeld => ?_)
        first | (refine wpAnyH_take (i := 0) (v := ?_) nth0 (by kernel_rfl) (by kernel_rfl) (by kernel_rfl) (fun _ _ _ h => h) (Or.inl ⟨by rfl, ?_⟩) hHeld ?_; rotate_left; focus (intro wS hSw; (obtain ⟨⟨_, _, _⟩, _⟩ := hSw.1.all); go_simp; try with_reducible rfl; done)) | (refine wpAnyH_take (i := 0) (v := undef) nth0 (by kernel_rfl) (by kernel_rfl) (by kernel_rfl) (fun _ _ _ h => h) (Or.inr ⟨by rfl, rfl⟩) hHeld ?_)
        (try simp only [Act.put]); (try simp only [List.setIfInBounds_toArray]); (try simp only [List.set_cons_succ]); (try simp only [List.set_cons_zero])
        first | (refine wpAnyH_take (i := 1) (v := ?_) nth1 (by kernel_rfl) (by kernel_rfl) (by kernel_rfl) (fun _ _ _ h => h) (Or.inl ⟨by rfl, ?_⟩) hHeld ?_; rotate_left; focus (intro wS hSw; (obtain ⟨⟨_, _, _⟩, _⟩ := hSw.1.all); go_simp; try with_reducible rfl; done)) | (refine wpAnyH_take (i := 1) (v := undef) nth1 (by kernel_rfl) (by kernel_rfl) (by kernel_rfl) (fun _ _ _ h => h) (Or.inr ⟨by rfl, rfl⟩) hHeld ?_)
        (try simp only [Act.put]); (try simp only [List.setIfInBounds_toArray]); (try simp only [List.set_cons_succ]); (try simp only [List.set_cons_zero])
        first | (refine wpAnyH_take (i := 2) (v := ?_) nth2 (by kernel_rfl) (by kernel_rfl) (by kernel_rfl) (fun _ _ _ h => h) (Or.inl ⟨by rfl, ?_⟩) hHeld ?_; rotate_left; focus (intro wS hSw; (obtain ⟨⟨_, _, _⟩, _⟩ := hSw.1.all); go_simp; try with_reducible rfl; done)) | (refine wpAnyH_take (i := 2) (v := undef) nth2 (by kernel_rfl) (by kernel_rfl) (by kernel_rfl) (fun _ _ _ h => h) (Or.inr ⟨by rfl, rfl⟩) hHeld ?_)
        (try simp only [Act.put]); (try simp only [List.setIfInBounds_toArray]); (try simp only [List.set_cons_succ]); (try simp only [List.set_cons_zero])
        first | (refine wpAnyH_take (i := 3) (v := ?_) nth3 (by kernel_rfl) (by kernel_rfl) (by kernel_rfl) (fun _ _ _ h => h) (Or.inl ⟨by rfl, ?_⟩) hHeld ?_; rotate_left; focus (intro wS hSw; (obtain ⟨⟨_, _, _⟩, _⟩ := hSw.1.all); go_simp; try with_reducible rfl; done)) | (refine wpAnyH_take (i := 3) (v := undef) nth3 (by kernel_rfl) (by kernel_rfl) (by kernel_rfl) (fun _ _ _ h => h) (Or.inr ⟨by rfl, rfl⟩) hHeld ?_)
        (try simp only [Act.put]); (try simp only [List.setIfInBounds_toArray]); (try simp only [List.set_cons_succ]); (try simp only [List.set_cons_zero])
        refine wpAnyH_ready (rs := [4]) (by kernel_rfl) (by simp) ?_
        refine AllReadyH.cons nth4 (fun K hK => ?_) AllReadyH.nil
        go_simp
        (first | (go_at_call 39; refine (QI.out _).mono ?_; rintro e w' ⟨rfl, hw⟩; have hb := bel_eq hw; clear hw) | (go_at_call 45; refine (QM2.out _).mono ?_; rintro e w' ⟨rfl, hb⟩; simp only [valAgg]))
        refine hK.out _ _ (⟨hHeld.1.kept hb, ⟨_, hHeld.2.1.choose_spec.kept hb⟩, Bel.then hHeld.2.2 hb⟩) (fun hHeld => ?_)
        clear hK K
        (try simp only [Act.put]); (try simp only [List.setIfInBounds_toArray]); (try simp only [List.set_cons_succ]); (try simp only [List.set_cons_zero])
        refine wpAnyH_ready (rs := [5]) (by kernel_rfl) (by simp) ?_
        refine AllReadyH.cons nth5 (fun K hK => ?_) AllReadyH.nil
        go_simp
        (first | (go_at_call 39; refine (QI.out _).mono ?_; rintro e w' ⟨rfl, hw⟩; have hb := bel_eq hw; clear hw) | (go_at_call 45; refine (QM2.out _).mono ?_; rintro e w' ⟨rfl, hb⟩; simp only [valAgg]))
        refine hK.out _ _ (⟨hHeld.1.kept hb, ⟨_, hHeld.2.1.choose_spec.kept hb⟩, Bel.then hHeld.2.2 hb⟩) (fun hHeld => ?_)
        clear hK K
        (try simp only [Act.put]); (try simp only [List.setIfInBounds_toArray]); (try simp only [List.set_cons_succ]); (try simp only [List.set_cons_zero])
        refine wpAnyH_ready (rs := [6]) (by kernel_rfl) (by simp) ?_
        refine AllReadyH.cons nth6 (fun K hK => ?_) AllReadyH.nil
        obtain ⟨u3, hu3⟩ := hHeld.2.1
        have HS := hide (hu3.set3 R)
        have HBS := hide (below_setV hHeld.2.2 (show w.heap.size ≤ w.heap.size + 1 by omega) R)
        obtain ⟨⟨c0, c1, c2⟩, ⟨y0, y1, y2⟩⟩ := hu3.all
        go_simp
        refine hK.out _ _ (⟨hHeld.1.far (by omega) R, ⟨R, HS.out⟩, HBS.out⟩) (fun hHeld => ?_)
        clear hK K
        (try simp only [Act.put]); (try simp only [List.setIfInBounds_toArray]); (try simp only [List.set_cons_succ]); (try simp only [List.set_cons_zero])
        refine wpAnyH_done (by kernel_rfl) ?_ _
        clear hHeld
        go_wp2_with fail
        exact end_v Try.results53 rfl rfl HS.out ⟨rfl, HBS.out⟩
    all_goals
      rw [if_neg (by rw [m1]; simp), if_neg (by omega)]
      clear g2
      unfold isN at m1 m2 m3 m4
      obtain ⟨⟨d0, d1, d2⟩, ⟨y0, y1, y2⟩⟩ := HX.out.all
      have HS := hide (HX.out.set3 nullV)
      have HBS := hide (below_setV HB.out (show w.heap.size ≤ w.heap.size + 1 by omega) nullV)
      go_enter Try.func53, Try.ntmps53
      go_upto_region 1 with (fail)
      generalize (w.alloc (.cells #[.int .i64 k, .int .i64 n, .string s] 26)).alloc (.cells #[.int .i64 0, .int .i64 0, .string { data := #[] }] 26) = w1 at *
      obtain ⟨⟨c0, c1, c2⟩, _⟩ := H1.out.all
      clear H1
      clear HX HB 
      go_wp2_with fail
      exact end_v Try.results53 rfl rfl HS.out ⟨rfl, HBS.out⟩
  · rw [if_neg (by omega), if_pos g3]
    clear g3
    rcases one_names nm with ⟨m1, m2, m3, m4⟩ | ⟨m1, m2, m3, m4⟩ | ⟨m1, m2, m3, m4⟩ | ⟨m1, m2, m3, m4⟩ | ⟨m1, m2, m3, m4⟩
    · rw [if_neg (by rw [m2]; simp), if_neg (by rw [m3]; simp), if_neg (by rw [m4]; simp)]
      unfold isN at m1 m2 m3 m4
      obtain ⟨⟨d0, d1, d2⟩, ⟨y0, y1, y2⟩⟩ := HX.out.all
      have HS := hide (HX.out.set3 nullV)
      have HBS := hide (below_setV HB.out (show w.heap.size ≤ w.heap.size + 1 by omega) nullV)
      go_enter Try.func53, Try.ntmps53
      go_upto_region 1 with (fail)
      generalize (w.alloc (.cells #[.int .i64 k, .int .i64 n, .string s] 26)).alloc (.cells #[.int .i64 0, .int .i64 0, .string { data := #[] }] 26) = w1 at *
      obtain ⟨⟨c0, c1, c2⟩, _⟩ := H1.out.all
      clear H1
      clear HX HB 
      go_wp2_with fail
      exact end_v Try.results53 rfl rfl HS.out ⟨rfl, HBS.out⟩
    · rw [if_pos m2]
      unfold isN at m1 m2 m3 m4
      go_enter Try.func53, Try.ntmps53
      go_upto_region 1 with (fail)
      generalize (w.alloc (.cells #[.int .i64 k, .int .i64 n, .string s] 26)).alloc (.cells #[.int .i64 0, .int .i64 0, .string { data := #[] }] 26) = w1 at *
      obtain ⟨⟨c0, c1, c2⟩, _⟩ := H1.out.all
      go_wp2_with fail
      refine (QN.out _ _).mono ?_
      rintro e w3 ⟨rfl, hb⟩
      replace HX := hide (HX.out.kept hb)
      replace HB := hide (Bel.then HB.out hb)
      clear hb
      clear c0 c1 c2 H1
      generalize numV _ = r at *
      obtain ⟨⟨c0, c1, c2⟩, ⟨y0, y1, y2⟩⟩ := HX.out.all
      have HS := hide (HX.out.set3 (r))
      have HBS := hide (below_setV HB.out (show w.heap.size ≤ w.heap.size + 1 by omega) (r))
      clear HX HB 
      unfold valAgg
      go_wp2_with fail
      exact end_v Try.results53 rfl rfl HS.out ⟨rfl, HBS.out⟩
    · rw [if_neg (by rw [m2]; simp), if_pos m3]
      unfold isN at m1 m2 m3 m4
      go_enter Try.func53, Try.ntmps53
      go_upto_region 1 with (fail)
      generalize (w.alloc (.cells #[.int .i64 k, .int .i64 n, .string s] 26)).alloc (.cells #[.int .i64 0, .int .i64 0, .string { data := #[] }] 26) = w1 at *
      obtain ⟨⟨c0, c1, c2⟩, _⟩ := H1.out.all
      go_wp2_with fail
      refine (QS1.out _).mono ?_
      rintro e w2 ⟨rfl, hb⟩
      replace HX := hide (HX.out.kept hb)
      replace HB := hide (Bel.then HB.out hb)
      clear hb
      clear c0 c1 c2 H1
      go_wp2_with fail
      refine (QV.out _ _).mono ?_
      rintro e w3 ⟨rfl, hb⟩
      replace HX := hide (HX.out.kept hb)
      replace HB := hide (Bel.then HB.out hb)
      clear hb
      generalize strV _ = r at *
      obtain ⟨⟨c0, c1, c2⟩, ⟨y0, y1, y2⟩⟩ := HX.out.all
      have HS := hide (HX.out.set3 (r))
      have HBS := hide (below_setV HB.out (show w.heap.size ≤ w.heap.size + 1 by omega) (r))
      clear HX HB 
      unfold valAgg
      go_wp2_with fail
      exact end_v Try.results53 rfl rfl HS.out ⟨rfl, HBS.out⟩
    · rw [if_neg (by rw [m2]; simp), if_neg (by rw [m3]; simp), if_pos m4]
      unfold isN at m1 m2 m3 m4
      go_enter Try.func53, Try.ntmps53
      go_upto_region 1 with (fail)
      generalize (w.alloc (.cells #[.int .i64 k, .int .i64 n, .string s] 26)).alloc (.cells #[.int .i64 0, .int .i64 0, .string { data := #[] }] 26) = w1 at *
      obtain ⟨⟨c0, c1, c2⟩, _⟩ := H1.out.all
      go_wp2_with fail
      refine (QS2.out _).mono ?_
      rintro e w2 ⟨rfl, hb⟩
      replace HX := hide (HX.out.kept hb)
      replace HB := hide (Bel.then HB.out hb)
      clear hb
      clear c0 c1 c2 H1
      go_wp2_with fail
      refine (QV.out _ _).mono ?_
      rintro e w3 ⟨rfl, hb⟩
      replace HX := hide (HX.out.kept hb)
      replace HB := hide (Bel.then HB.out hb)
      clear hb
      generalize strV _ = r at *
      obtain ⟨⟨c0, c1, c2⟩, ⟨y0, y1, y2⟩⟩ := HX.out.all
      have HS := hide (HX.out.set3 (r))
      have HBS := hide (below_setV HB.out (show w.heap.size ≤ w.heap.size + 1 by omega) (r))
      clear HX HB 
      unfold valAgg
      go_wp2_with fail
      exact end_v Try.results53 rfl rfl HS.out ⟨rfl, HBS.out⟩
    · rw [if_neg (by rw [m2]; simp), if_neg (by rw [m3]; simp), if_neg (by rw [m4]; simp)]
      unfold isN at m1 m2 m3 m4
      obtain ⟨⟨d0, d1, d2⟩, ⟨y0, y1, y2⟩⟩ := HX.out.all
      have HS := hide (HX.out.set3 nullV)
      have HBS := hide (below_setV HB.out (show w.heap.size ≤ w.heap.size + 1 by omega) nullV)
      go_enter Try.func53, Try.ntmps53
      go_upto_region 1 with (fail)
      generalize (w.alloc (.cells #[.int .i64 k, .int .i64 n, .string s] 26)).alloc (.cells #[.int .i64 0, .int .i64 0, .string { data := #[] }] 26) = w1 at *
      obtain ⟨⟨c0, c1, c2⟩, _⟩ := H1.out.all
      clear H1
      clear HX HB 
      go_wp2_with fail
      exact end_v Try.results53 rfl rfl HS.out ⟨rfl, HBS.out⟩
  · rw [if_neg (fun h => g2 h.2), if_neg g3]
    clear g2 g3
    rcases one_names nm with ⟨m1, m2, m3, m4⟩ | ⟨m1, m2, m3, m4⟩ | ⟨m1, m2, m3, m4⟩ | ⟨m1, m2, m3, m4⟩ | ⟨m1, m2, m3, m4⟩
    all_goals
      unfold isN at m1 m2 m3 m4
      obtain ⟨⟨d0, d1, d2⟩, ⟨y0, y1, y2⟩⟩ := HX.out.all
      have HS := hide (HX.out.set3 nullV)
      have HBS := hide (below_setV HB.out (show w.heap.size ≤ w.heap.size + 1 by omega) nullV)
      go_enter Try.func53, Try.ntmps53
      go_upto_region 1 with (fail)
      generalize (w.alloc (.cells #[.int .i64 k, .int .i64 n, .string s] 26)).alloc (.cells #[.int .i64 0, .int .i64 0, .string { data := #[] }] 26) = w1 at *
      obtain ⟨⟨c0, c1, c2⟩, _⟩ := H1.out.all
      clear H1
      clear HX HB 
      go_wp2_with fail
      exact end_v Try.results53 rfl rfl HS.out ⟨rfl, HBS.out⟩
set_option maxRecDepth 100000 in
set_option maxHeartbeats 4000000 in
theorem call_c (nm : ByteArray) (A : Option Addr) (n c : Nat) (l : List ValV) (w : World) (h : RowV w w.heap.size A n c l) (hs : ∀ v ∈ l, v.str.size ≤ 1048576) : Calls Try.prog 29 #[.string nm, .slice A n c] w (GivesV w (callV nm l)) := by
  unfold callV
  cases hco : isN nm [99, 111, 97, 108, 101, 115, 99, 101] with
  | true =>
    obtain rfl := isN_eq hco
    rw [if_pos rfl]
    exact coal_c A n c l w h
  | false =>
    rw [if_neg (by simp)]
    unfold isN at hco
    have hlen := h.len
    have HX := hide (vb_one w)
    have HB := hide (Bel.one w zO)
    have HR := hide (h.kept (Bel.one w zO))
    clear h
    match l, hlen, HR, hs with
    | [a], hlen, HR, hs =>
      simp only [List.length_singleton] at hlen
      subst hlen
      have Q := hide (fun W => callOne_c nm a W (hs a (by simp)))
      simp only
      generalize oneV nm a = r at *
      obtain ⟨k, m, s⟩ := a
      unfold valAgg at Q
      simp only at Q
      have hnu : isN nm [110, 117, 108, 108, 105, 102] = true ∨ isN nm [110, 117, 108, 108, 105, 102] = false := by cases isN nm [110, 117, 108, 108, 105, 102] <;> simp
      unfold isN at hnu
      clear hs
      rcases hnu with hnu | hnu
      all_goals
        go_enter Try.func29, Try.ntmps29
        go_upto_region 1 with (fail)
        generalize w.alloc (.cells #[.int .i64 0, .int .i64 0, .string { data := #[] }] 26) = w1 at *
        obtain ⟨blk, off, rfl, hlt, hcc⟩ := row_get HR.out (by omega)
        have hc0 := hcc 0 _ rfl
        have l0 := hc0 0 _ rfl
        have l1 := hc0 1 _ rfl
        have l2 := hc0 2 _ rfl
        simp only [Nat.zero_mul, Nat.zero_add, Nat.add_zero] at l0 l1 l2
        clear hcc hc0 hlt
        go_wp2_with fail
        refine (Q.out _).mono ?_
        rintro e w2 ⟨rfl, hb⟩
        replace HX := hide (HX.out.kept hb)
        replace HB := hide (Bel.then HB.out hb)
        clear hb
        clear l0 l1 l2
        obtain ⟨⟨c0, c1, c2⟩, ⟨y0, y1, y2⟩⟩ := HX.out.all
        have HS := hide (HX.out.set3 (r))
        have HBS := hide (below_setV HB.out (Nat.le_refl _) (r))
        clear HX HB 
        unfold valAgg
        go_wp2_with fail
        exact end_v Try.results29 rfl rfl HS.out ⟨rfl, HBS.out⟩
    | [a, b], hlen, HR, hs =>
      simp only [List.length_cons, List.length_nil, Nat.zero_add, Nat.reduceAdd] at hlen
      subst hlen
      simp only
      have Q := hide (fun W => compare_c a b W)
      unfold nullifV
      generalize compV a b = cp at *
      obtain ⟨z, q⟩ := cp
      obtain ⟨k, m, s⟩ := a
      obtain ⟨k2, m2, s2⟩ := b
      unfold valAgg at Q
      simp only at Q ⊢
      clear hs
      cases hnu : isN nm [110, 117, 108, 108, 105, 102] with
      | false =>
        rw [if_neg (by simp)]
        unfold isN at hnu
        clear Q HR
        obtain ⟨⟨d0, d1, d2⟩, ⟨y0, y1, y2⟩⟩ := HX.out.all
        have HS := hide (HX.out.set3 nullV)
        have HBS := hide (below_setV HB.out (Nat.le_refl _) nullV)
        go_enter Try.func29, Try.ntmps29
        go_upto_region 1 with (fail)
        generalize w.alloc (.cells #[.int .i64 0, .int .i64 0, .string { data := #[] }] 26) = w1 at *
        clear HX HB 
        go_wp2_with fail
        exact end_v Try.results29 rfl rfl HS.out ⟨rfl, HBS.out⟩
      | true =>
        rw [if_pos rfl]
        unfold isN at hnu
        obtain ⟨blk, off, rfl, hlt, hcc⟩ := row_get HR.out (by omega)
        have hc0 := hcc 0 _ rfl
        have hc1 := hcc 1 _ rfl
        have l0 := hc0 0 _ rfl
        have l1 := hc0 1 _ rfl
        have l2 := hc0 2 _ rfl
        simp only [Nat.zero_mul, Nat.zero_add, Nat.add_zero] at l0 l1 l2
        have m0 := hc1 0 _ rfl
        have m1 := hc1 1 _ rfl
        have m2' := hc1 2 _ rfl
        simp only [Nat.one_mul, Nat.add_zero, Nat.reduceAdd] at m0 m1 m2'
        have C0 := hide (show Cl _ blk off k m s from ⟨hlt, l0, l1, l2⟩)
        have C1 := hide (show Cl _ blk (off + 3) k2 m2 s2 from ⟨hlt, m0, m1, m2'⟩)
        clear hcc hc0 hc1 hlt l0 l1 l2 m0 m1 m2'
        rcases (show (q = false) ∨ (q = true ∧ z = 0) ∨ (q = true ∧ ¬ z = 0) by cases q <;> simp <;> omega) with rfl | ⟨rfl, rfl⟩ | ⟨rfl, hz⟩
        · rw [if_neg (by simp)]
          go_enter Try.func29, Try.ntmps29
          go_upto_region 1 with (fail)
          generalize w.alloc (.cells #[.int .i64 0, .int .i64 0, .string { data := #[] }] 26) = w1 at *
          go_upto_region 10 with (fail)
          refine wp_region_held_drew (S := (fun w' => Cl w' blk off k m s ∧ Cl w' blk (off + 3) k2 m2 s2 ∧ VB w' w.heap.size nullV ∧ Below w.heap.size w w')) (by kernel_rfl) (⟨C0.out.kept (Below.refl _ _).drew, C1.out.kept (Below.refl _ _).drew, HX.out.kept (Below.refl _ _).drew, HB.out.drew⟩) (fun hHeld => ?_)
          first | (refine wpAnyH_take (i := 0) (v := ?_) nth0 (by kernel_rfl) (by kernel_rfl) (by kernel_rfl) (fun _ _ _ h => h) (Or.inl ⟨by rfl, ?_⟩) hHeld ?_; rotate_left; focus (intro wS hSw; (obtain ⟨_, _, _, _⟩ := hSw.1; obtain ⟨_, _, _, _⟩ := hSw.2.1); go_simp; try with_reducible rfl; done)) | (refine wpAnyH_take (i := 0) (v := undef) nth0 (by kernel_rfl) (by kernel_rfl) (by kernel_rfl) (fun _ _ _ h => h) (Or.inr ⟨by rfl, rfl⟩) hHeld ?_)
          (try simp only [Act.put]); (try simp only [List.setIfInBounds_toArray]); (try simp only [List.set_cons_succ]); (try simp only [List.set_cons_zero])
          first | (refine wpAnyH_take (i := 1) (v := ?_) nth1 (by kernel_rfl) (by kernel_rfl) (by kernel_rfl) (fun _ _ _ h => h) (Or.inl ⟨by rfl, ?_⟩) hHeld ?_; rotate_left; focus (intro wS hSw; (obtain ⟨_, _, _, _⟩ := hSw.1; obtain ⟨_, _, _, _⟩ := hSw.2.1); go_simp; try with_reducible rfl; done)) | (refine wpAnyH_take (i := 1) (v := undef) nth1 (by kernel_rfl) (by kernel_rfl) (by kernel_rfl) (fun _ _ _ h => h) (Or.inr ⟨by rfl, rfl⟩) hHeld ?_)
          (try simp only [Act.put]); (try simp only [List.setIfInBounds_toArray]); (try simp only [List.set_cons_succ]); (try simp only [List.set_cons_zero])
          first | (refine wpAnyH_take (i := 2) (v := ?_) nth2 (by kernel_rfl) (by kernel_rfl) (by kernel_rfl) (fun _ _ _ h => h) (Or.inl ⟨by rfl, ?_⟩) hHeld ?_; rotate_left; focus (intro wS hSw; (obtain ⟨_, _, _, _⟩ := hSw.1; obtain ⟨_, _, _, _⟩ := hSw.2.1); go_simp; try with_reducible rfl; done)) | (refine wpAnyH_take (i := 2) (v := undef) nth2 (by kernel_rfl) (by kernel_rfl) (by kernel_rfl) (fun _ _ _ h => h) (Or.inr ⟨by rfl, rfl⟩) hHeld ?_)
          (try simp only [Act.put]); (try simp only [List.setIfInBounds_toArray]); (try simp only [List.set_cons_succ]); (try simp only [List.set_cons_zero])
          first | (refine wpAnyH_take (i := 3) (v := ?_) nth3 (by kernel_rfl) (by kernel_rfl) (by kernel_rfl) (fun _ _ _ h => h) (Or.inl ⟨by rfl, ?_⟩) hHeld ?_; rotate_left; focus (intro wS hSw; (obtain ⟨_, _, _, _⟩ := hSw.1; obtain ⟨_, _, _, _⟩ := hSw.2.1); go_simp; try with_reducible rfl; done)) | (refine wpAnyH_take (i := 3) (v := undef) nth3 (by kernel_rfl) (by kernel_rfl) (by kernel_rfl) (fun _ _ _ h => h) (Or.inr ⟨by rfl, rfl⟩) hHeld ?_)
          (try simp only [Act.put]); (try simp only [List.setIfInBounds_toArray]); (try simp only [List.set_cons_succ]); (try simp only [List.set_cons_zero])
          first | (refine wpAnyH_take (i := 4) (v := ?_) nth4 (by kernel_rfl) (by kernel_rfl) (by kernel_rfl) (fun _ _ _ h => h) (Or.inl ⟨by rfl, ?_⟩) hHeld ?_; rotate_left; focus (intro wS hSw; (obtain ⟨_, _, _, _⟩ := hSw.1; obtain ⟨_, _, _, _⟩ := hSw.2.1); go_simp; try with_reducible rfl; done)) | (refine wpAnyH_take (i := 4) (v := undef) nth4 (by kernel_rfl) (by kernel_rfl) (by kernel_rfl) (fun _ _ _ h => h) (Or.inr ⟨by rfl, rfl⟩) hHeld ?_)
          (try simp only [Act.put]); (try simp only [List.setIfInBounds_toArray]); (try simp only [List.set_cons_succ]); (try simp only [List.set_cons_zero])
          first | (refine wpAnyH_take (i := 5) (v := ?_) nth5 (by kernel_rfl) (by kernel_rfl) (by kernel_rfl) (fun _ _ _ h => h) (Or.inl ⟨by rfl, ?_⟩) hHeld ?_; rotate_left; focus (intro wS hSw; (obtain ⟨_, _, _, _⟩ := hSw.1; obtain ⟨_, _, _, _⟩ := hSw.2.1); go_simp; try with_reducible rfl; done)) | (refine wpAnyH_take (i := 5) (v := undef) nth5 (by kernel_rfl) (by kernel_rfl) (by kernel_rfl) (fun _ _ _ h => h) (Or.inr ⟨by rfl, rfl⟩) hHeld ?_)
          (try simp only [Act.put]); (try simp only [List.setIfInBounds_toArray]); (try simp only [List.set_cons_succ]); (try simp only [List.set_cons_zero])
          refine wpAnyH_ready (rs := [6]) (by kernel_rfl) (by simp) ?_
          refine AllReadyH.cons nth6 (fun K hK => ?_) AllReadyH.nil
          go_simp
          (go_at_call 52; refine (Q.out _).mono ?_; rintro e w' ⟨rfl, hb⟩)
          refine hK.out _ _ (⟨hHeld.1.kept hb, hHeld.2.1.kept hb, hHeld.2.2.1.kept hb, Bel.then hHeld.2.2.2 hb⟩) (fun hHeld => ?_)
          clear hK K
          (try simp only [Act.put]); (try simp only [List.setIfInBounds_toArray]); (try simp only [List.set_cons_succ]); (try simp only [List.set_cons_zero])
          first | (refine wpAnyH_take (i := 7) (v := ?_) nth7 (by kernel_rfl) (by kernel_rfl) (by kernel_rfl) (fun _ _ _ h => h) (Or.inl ⟨by rfl, ?_⟩) hHeld ?_; rotate_left; focus (intro wS hSw; (obtain ⟨_, _, _, _⟩ := hSw.1; obtain ⟨_, _, _, _⟩ := hSw.2.1); go_simp; try with_reducible rfl; done)) | (refine wpAnyH_take (i := 7) (v := undef) nth7 (by kernel_rfl) (by kernel_rfl) (by kernel_rfl) (fun _ _ _ h => h) (Or.inr ⟨by rfl, rfl⟩) hHeld ?_)
          (try simp only [Act.put]); (try simp only [List.setIfInBounds_toArray]); (try simp only [List.set_cons_succ]); (try simp only [List.set_cons_zero])
          first | (refine wpAnyH_take (i := 8) (v := ?_) nth8 (by kernel_rfl) (by kernel_rfl) (by kernel_rfl) (fun _ _ _ h => h) (Or.inl ⟨by rfl, ?_⟩) hHeld ?_; rotate_left; focus (intro wS hSw; (obtain ⟨_, _, _, _⟩ := hSw.1; obtain ⟨_, _, _, _⟩ := hSw.2.1); go_simp; try with_reducible rfl; done)) | (refine wpAnyH_take (i := 8) (v := undef) nth8 (by kernel_rfl) (by kernel_rfl) (by kernel_rfl) (fun _ _ _ h => h) (Or.inr ⟨by rfl, rfl⟩) hHeld ?_)
          (try simp only [Act.put]); (try simp only [List.setIfInBounds_toArray]); (try simp only [List.set_cons_succ]); (try simp only [List.set_cons_zero])
          first | (refine wpAnyH_take (i := 9) (v := ?_) nth9 (by kernel_rfl) (by kernel_rfl) (by kernel_rfl) (fun _ _ _ h => h) (Or.inl ⟨by rfl, ?_⟩) hHeld ?_; rotate_left; focus (intro wS hSw; (obtain ⟨_, _, _, _⟩ := hSw.1; obtain ⟨_, _, _, _⟩ := hSw.2.1); go_simp; try with_reducible rfl; done)) | (refine wpAnyH_take (i := 9) (v := undef) nth9 (by kernel_rfl) (by kernel_rfl) (by kernel_rfl) (fun _ _ _ h => h) (Or.inr ⟨by rfl, rfl⟩) hHeld ?_)
          (try simp only [Act.put]); (try simp only [List.setIfInBounds_toArray]); (try simp only [List.set_cons_succ]); (try simp only [List.set_cons_zero])
          first | (refine wpAnyH_take (i := 10) (v := ?_) nth10 (by kernel_rfl) (by kernel_rfl) (by kernel_rfl) (fun _ _ _ h => h) (Or.inl ⟨by rfl, ?_⟩) hHeld ?_; rotate_left; focus (intro wS hSw; (obtain ⟨_, _, _, _⟩ := hSw.1; obtain ⟨_, _, _, _⟩ := hSw.2.1); go_simp; try with_reducible rfl; done)) | (refine wpAnyH_take (i := 10) (v := undef) nth10 (by kernel_rfl) (by kernel_rfl) (by kernel_rfl) (fun _ _ _ h => h) (Or.inr ⟨by rfl, rfl⟩) hHeld ?_)
          (try simp only [Act.put]); (try simp only [List.setIfInBounds_toArray]); (try simp only [List.set_cons_succ]); (try simp only [List.set_cons_zero])
          first | (refine wpAnyH_take (i := 11) (v := ?_) nth11 (by kernel_rfl) (by kernel_rfl) (by kernel_rfl) (fun _ _ _ h => h) (Or.inl ⟨by rfl, ?_⟩) hHeld ?_; rotate_left; focus (intro wS hSw; (obtain ⟨_, _, _, _⟩ := hSw.1; obtain ⟨_, _, _, _⟩ := hSw.2.1); go_simp; try with_reducible rfl; done)) | (refine wpAnyH_take (i := 11) (v := undef) nth11 (by kernel_rfl) (by kernel_rfl) (by kernel_rfl) (fun _ _ _ h => h) (Or.inr ⟨by rfl, rfl⟩) hHeld ?_)
          (try simp only [Act.put]); (try simp only [List.setIfInBounds_toArray]); (try simp only [List.set_cons_succ]); (try simp only [List.set_cons_zero])
          refine wpAnyH_done (by kernel_rfl) ?_ _
          obtain ⟨C0, _, HX, HB⟩ := hHeld
          replace C0 := hide C0
          replace HX := hide HX
          replace HB := hide HB
          obtain ⟨_, p0, p1, p2⟩ := C0.out
          obtain ⟨⟨c0, c1, c2⟩, ⟨y0, y1, y2⟩⟩ := HX.out.all
          have HS := hide (HX.out.set3 (⟨k, m, s⟩))
          have HBS := hide (below_setV HB.out (Nat.le_refl _) (⟨k, m, s⟩))
          clear HX HB C0
          go_wp2_with fail
          exact end_v Try.results29 rfl rfl HS.out ⟨rfl, HBS.out⟩
        · rw [if_pos ⟨rfl, rfl⟩]
          go_enter Try.func29, Try.ntmps29
          go_upto_region 1 with (fail)
          generalize w.alloc (.cells #[.int .i64 0, .int .i64 0, .string { data := #[] }] 26) = w1 at *
          go_upto_region 10 with (fail)
          refine wp_region_held_drew (S := (fun w' => Cl w' blk off k m s ∧ Cl w' blk (off + 3) k2 m2 s2 ∧ VB w' w.heap.size nullV ∧ Below w.heap.size w w')) (by kernel_rfl) (⟨C0.out.kept (Below.refl _ _).drew, C1.out.kept (Below.refl _ _).drew, HX.out.kept (Below.refl _ _).drew, HB.out.drew⟩) (fun hHeld => ?_)
          first | (refine wpAnyH_take (i := 0) (v := ?_) nth0 (by kernel_rfl) (by kernel_rfl) (by kernel_rfl) (fun _ _ _ h => h) (Or.inl ⟨by rfl, ?_⟩) hHeld ?_; rotate_left; focus (intro wS hSw; (obtain ⟨_, _, _, _⟩ := hSw.1; obtain ⟨_, _, _, _⟩ := hSw.2.1); go_simp; try with_reducible rfl; done)) | (refine wpAnyH_take (i := 0) (v := undef) nth0 (by kernel_rfl) (by kernel_rfl) (by kernel_rfl) (fun _ _ _ h => h) (Or.inr ⟨by rfl, rfl⟩) hHeld ?_)
          (try simp only [Act.put]); (try simp only [List.setIfInBounds_toArray]); (try simp only [List.set_cons_succ]); (try simp only [List.set_cons_zero])
          first | (refine wpAnyH_take (i := 1) (v := ?_) nth1 (by kernel_rfl) (by kernel_rfl) (by kernel_rfl) (fun _ _ _ h => h) (Or.inl ⟨by rfl, ?_⟩) hHeld ?_; rotate_left; focus (intro wS hSw; (obtain ⟨_, _, _, _⟩ := hSw.1; obtain ⟨_, _, _, _⟩ := hSw.2.1); go_simp; try with_reducible rfl; done)) | (refine wpAnyH_take (i := 1) (v := undef) nth1 (by kernel_rfl) (by kernel_rfl) (by kernel_rfl) (fun _ _ _ h => h) (Or.inr ⟨by rfl, rfl⟩) hHeld ?_)
          (try simp only [Act.put]); (try simp only [List.setIfInBounds_toArray]); (try simp only [List.set_cons_succ]); (try simp only [List.set_cons_zero])
          first | (refine wpAnyH_take (i := 2) (v := ?_) nth2 (by kernel_rfl) (by kernel_rfl) (by kernel_rfl) (fun _ _ _ h => h) (Or.inl ⟨by rfl, ?_⟩) hHeld ?_; rotate_left; focus (intro wS hSw; (obtain ⟨_, _, _, _⟩ := hSw.1; obtain ⟨_, _, _, _⟩ := hSw.2.1); go_simp; try with_reducible rfl; done)) | (refine wpAnyH_take (i := 2) (v := undef) nth2 (by kernel_rfl) (by kernel_rfl) (by kernel_rfl) (fun _ _ _ h => h) (Or.inr ⟨by rfl, rfl⟩) hHeld ?_)
          (try simp only [Act.put]); (try simp only [List.setIfInBounds_toArray]); (try simp only [List.set_cons_succ]); (try simp only [List.set_cons_zero])
          first | (refine wpAnyH_take (i := 3) (v := ?_) nth3 (by kernel_rfl) (by kernel_rfl) (by kernel_rfl) (fun _ _ _ h => h) (Or.inl ⟨by rfl, ?_⟩) hHeld ?_; rotate_left; focus (intro wS hSw; (obtain ⟨_, _, _, _⟩ := hSw.1; obtain ⟨_, _, _, _⟩ := hSw.2.1); go_simp; try with_reducible rfl; done)) | (refine wpAnyH_take (i := 3) (v := undef) nth3 (by kernel_rfl) (by kernel_rfl) (by kernel_rfl) (fun _ _ _ h => h) (Or.inr ⟨by rfl, rfl⟩) hHeld ?_)
          (try simp only [Act.put]); (try simp only [List.setIfInBounds_toArray]); (try simp only [List.set_cons_succ]); (try simp only [List.set_cons_zero])
          first | (refine wpAnyH_take (i := 4) (v := ?_) nth4 (by kernel_rfl) (by kernel_rfl) (by kernel_rfl) (fun _ _ _ h => h) (Or.inl ⟨by rfl, ?_⟩) hHeld ?_; rotate_left; focus (intro wS hSw; (obtain ⟨_, _, _, _⟩ := hSw.1; obtain ⟨_, _, _, _⟩ := hSw.2.1); go_simp; try with_reducible rfl; done)) | (refine wpAnyH_take (i := 4) (v := undef) nth4 (by kernel_rfl) (by kernel_rfl) (by kernel_rfl) (fun _ _ _ h => h) (Or.inr ⟨by rfl, rfl⟩) hHeld ?_)
          (try simp only [Act.put]); (try simp only [List.setIfInBounds_toArray]); (try simp only [List.set_cons_succ]); (try simp only [List.set_cons_zero])
          first | (refine wpAnyH_take (i := 5) (v := ?_) nth5 (by kernel_rfl) (by kernel_rfl) (by kernel_rfl) (fun _ _ _ h => h) (Or.inl ⟨by rfl, ?_⟩) hHeld ?_; rotate_left; focus (intro wS hSw; (obtain ⟨_, _, _, _⟩ := hSw.1; obtain ⟨_, _, _, _⟩ := hSw.2.1); go_simp; try with_reducible rfl; done)) | (refine wpAnyH_take (i := 5) (v := undef) nth5 (by kernel_rfl) (by kernel_rfl) (by kernel_rfl) (fun _ _ _ h => h) (Or.inr ⟨by rfl, rfl⟩) hHeld ?_)
          (try simp only [Act.put]); (try simp only [List.setIfInBounds_toArray]); (try simp only [List.set_cons_succ]); (try simp only [List.set_cons_zero])
          refine wpAnyH_ready (rs := [6]) (by kernel_rfl) (by simp) ?_
          refine AllReadyH.cons nth6 (fun K hK => ?_) AllReadyH.nil
          go_simp
          (go_at_call 52; refine (Q.out _).mono ?_; rintro e w' ⟨rfl, hb⟩)
          refine hK.out _ _ (⟨hHeld.1.kept hb, hHeld.2.1.kept hb, hHeld.2.2.1.kept hb, Bel.then hHeld.2.2.2 hb⟩) (fun hHeld => ?_)
          clear hK K
          (try simp only [Act.put]); (try simp only [List.setIfInBounds_toArray]); (try simp only [List.set_cons_succ]); (try simp only [List.set_cons_zero])
          first | (refine wpAnyH_take (i := 7) (v := ?_) nth7 (by kernel_rfl) (by kernel_rfl) (by kernel_rfl) (fun _ _ _ h => h) (Or.inl ⟨by rfl, ?_⟩) hHeld ?_; rotate_left; focus (intro wS hSw; (obtain ⟨_, _, _, _⟩ := hSw.1; obtain ⟨_, _, _, _⟩ := hSw.2.1); go_simp; try with_reducible rfl; done)) | (refine wpAnyH_take (i := 7) (v := undef) nth7 (by kernel_rfl) (by kernel_rfl) (by kernel_rfl) (fun _ _ _ h => h) (Or.inr ⟨by rfl, rfl⟩) hHeld ?_)
          (try simp only [Act.put]); (try simp only [List.setIfInBounds_toArray]); (try simp only [List.set_cons_succ]); (try simp only [List.set_cons_zero])
          first | (refine wpAnyH_take (i := 8) (v := ?_) nth8 (by kernel_rfl) (by kernel_rfl) (by kernel_rfl) (fun _ _ _ h => h) (Or.inl ⟨by rfl, ?_⟩) hHeld ?_; rotate_left; focus (intro wS hSw; (obtain ⟨_, _, _, _⟩ := hSw.1; obtain ⟨_, _, _, _⟩ := hSw.2.1); go_simp; try with_reducible rfl; done)) | (refine wpAnyH_take (i := 8) (v := undef) nth8 (by kernel_rfl) (by kernel_rfl) (by kernel_rfl) (fun _ _ _ h => h) (Or.inr ⟨by rfl, rfl⟩) hHeld ?_)
          (try simp only [Act.put]); (try simp only [List.setIfInBounds_toArray]); (try simp only [List.set_cons_succ]); (try simp only [List.set_cons_zero])
          first | (refine wpAnyH_take (i := 9) (v := ?_) nth9 (by kernel_rfl) (by kernel_rfl) (by kernel_rfl) (fun _ _ _ h => h) (Or.inl ⟨by rfl, ?_⟩) hHeld ?_; rotate_left; focus (intro wS hSw; (obtain ⟨_, _, _, _⟩ := hSw.1; obtain ⟨_, _, _, _⟩ := hSw.2.1); go_simp; try with_reducible rfl; done)) | (refine wpAnyH_take (i := 9) (v := undef) nth9 (by kernel_rfl) (by kernel_rfl) (by kernel_rfl) (fun _ _ _ h => h) (Or.inr ⟨by rfl, rfl⟩) hHeld ?_)
          (try simp only [Act.put]); (try simp only [List.setIfInBounds_toArray]); (try simp only [List.set_cons_succ]); (try simp only [List.set_cons_zero])
          first | (refine wpAnyH_take (i := 10) (v := ?_) nth10 (by kernel_rfl) (by kernel_rfl) (by kernel_rfl) (fun _ _ _ h => h) (Or.inl ⟨by rfl, ?_⟩) hHeld ?_; rotate_left; focus (intro wS hSw; (obtain ⟨_, _, _, _⟩ := hSw.1; obtain ⟨_, _, _, _⟩ := hSw.2.1); go_simp; try with_reducible rfl; done)) | (refine wpAnyH_take (i := 10) (v := undef) nth10 (by kernel_rfl) (by kernel_rfl) (by kernel_rfl) (fun _ _ _ h => h) (Or.inr ⟨by rfl, rfl⟩) hHeld ?_)
          (try simp only [Act.put]); (try simp only [List.setIfInBounds_toArray]); (try simp only [List.set_cons_succ]); (try simp only [List.set_cons_zero])
          first | (refine wpAnyH_take (i := 11) (v := ?_) nth11 (by kernel_rfl) (by kernel_rfl) (by kernel_rfl) (fun _ _ _ h => h) (Or.inl ⟨by rfl, ?_⟩) hHeld ?_; rotate_left; focus (intro wS hSw; (obtain ⟨_, _, _, _⟩ := hSw.1; obtain ⟨_, _, _, _⟩ := hSw.2.1); go_simp; try with_reducible rfl; done)) | (refine wpAnyH_take (i := 11) (v := undef) nth11 (by kernel_rfl) (by kernel_rfl) (by kernel_rfl) (fun _ _ _ h => h) (Or.inr ⟨by rfl, rfl⟩) hHeld ?_)
          (try simp only [Act.put]); (try simp only [List.setIfInBounds_toArray]); (try simp only [List.set_cons_succ]); (try simp only [List.set_cons_zero])
          refine wpAnyH_done (by kernel_rfl) ?_ _
          obtain ⟨C0, _, HX, HB⟩ := hHeld
          replace C0 := hide C0
          replace HX := hide HX
          replace HB := hide HB
          obtain ⟨⟨c0, c1, c2⟩, ⟨y0, y1, y2⟩⟩ := HX.out.all
          have HS := hide (HX.out.set3 (nullV))
          have HBS := hide (below_setV HB.out (Nat.le_refl _) (nullV))
          clear HX HB C0
          go_wp2_with fail
          exact end_v Try.results29 rfl rfl HS.out ⟨rfl, HBS.out⟩
        · rw [if_neg (fun h => hz h.2)]
          have hz2 : (z == 0) = false := by simpa using hz
          clear hz
          go_enter Try.func29, Try.ntmps29
          go_upto_region 1 with (fail)
          generalize w.alloc (.cells #[.int .i64 0, .int .i64 0, .string { data := #[] }] 26) = w1 at *
          go_upto_region 10 with (fail)
          refine wp_region_held_drew (S := (fun w' => Cl w' blk off k m s ∧ Cl w' blk (off + 3) k2 m2 s2 ∧ VB w' w.heap.size nullV ∧ Below w.heap.size w w')) (by kernel_rfl) (⟨C0.out.kept (Below.refl _ _).drew, C1.out.kept (Below.refl _ _).drew, HX.out.kept (Below.refl _ _).drew, HB.out.drew⟩) (fun hHeld => ?_)
          first | (refine wpAnyH_take (i := 0) (v := ?_) nth0 (by kernel_rfl) (by kernel_rfl) (by kernel_rfl) (fun _ _ _ h => h) (Or.inl ⟨by rfl, ?_⟩) hHeld ?_; rotate_left; focus (intro wS hSw; (obtain ⟨_, _, _, _⟩ := hSw.1; obtain ⟨_, _, _, _⟩ := hSw.2.1); go_simp; try with_reducible rfl; done)) | (refine wpAnyH_take (i := 0) (v := undef) nth0 (by kernel_rfl) (by kernel_rfl) (by kernel_rfl) (fun _ _ _ h => h) (Or.inr ⟨by rfl, rfl⟩) hHeld ?_)
          (try simp only [Act.put]); (try simp only [List.setIfInBounds_toArray]); (try simp only [List.set_cons_succ]); (try simp only [List.set_cons_zero])
          first | (refine wpAnyH_take (i := 1) (v := ?_) nth1 (by kernel_rfl) (by kernel_rfl) (by kernel_rfl) (fun _ _ _ h => h) (Or.inl ⟨by rfl, ?_⟩) hHeld ?_; rotate_left; focus (intro wS hSw; (obtain ⟨_, _, _, _⟩ := hSw.1; obtain ⟨_, _, _, _⟩ := hSw.2.1); go_simp; try with_reducible rfl; done)) | (refine wpAnyH_take (i := 1) (v := undef) nth1 (by kernel_rfl) (by kernel_rfl) (by kernel_rfl) (fun _ _ _ h => h) (Or.inr ⟨by rfl, rfl⟩) hHeld ?_)
          (try simp only [Act.put]); (try simp only [List.setIfInBounds_toArray]); (try simp only [List.set_cons_succ]); (try simp only [List.set_cons_zero])
          first | (refine wpAnyH_take (i := 2) (v := ?_) nth2 (by kernel_rfl) (by kernel_rfl) (by kernel_rfl) (fun _ _ _ h => h) (Or.inl ⟨by rfl, ?_⟩) hHeld ?_; rotate_left; focus (intro wS hSw; (obtain ⟨_, _, _, _⟩ := hSw.1; obtain ⟨_, _, _, _⟩ := hSw.2.1); go_simp; try with_reducible rfl; done)) | (refine wpAnyH_take (i := 2) (v := undef) nth2 (by kernel_rfl) (by kernel_rfl) (by kernel_rfl) (fun _ _ _ h => h) (Or.inr ⟨by rfl, rfl⟩) hHeld ?_)
          (try simp only [Act.put]); (try simp only [List.setIfInBounds_toArray]); (try simp only [List.set_cons_succ]); (try simp only [List.set_cons_zero])
          first | (refine wpAnyH_take (i := 3) (v := ?_) nth3 (by kernel_rfl) (by kernel_rfl) (by kernel_rfl) (fun _ _ _ h => h) (Or.inl ⟨by rfl, ?_⟩) hHeld ?_; rotate_left; focus (intro wS hSw; (obtain ⟨_, _, _, _⟩ := hSw.1; obtain ⟨_, _, _, _⟩ := hSw.2.1); go_simp; try with_reducible rfl; done)) | (refine wpAnyH_take (i := 3) (v := undef) nth3 (by kernel_rfl) (by kernel_rfl) (by kernel_rfl) (fun _ _ _ h => h) (Or.inr ⟨by rfl, rfl⟩) hHeld ?_)
          (try simp only [Act.put]); (try simp only [List.setIfInBounds_toArray]); (try simp only [List.set_cons_succ]); (try simp only [List.set_cons_zero])
          first | (refine wpAnyH_take (i := 4) (v := ?_) nth4 (by kernel_rfl) (by kernel_rfl) (by kernel_rfl) (fun _ _ _ h => h) (Or.inl ⟨by rfl, ?_⟩) hHeld ?_; rotate_left; focus (intro wS hSw; (obtain ⟨_, _, _, _⟩ := hSw.1; obtain ⟨_, _, _, _⟩ := hSw.2.1); go_simp; try with_reducible rfl; done)) | (refine wpAnyH_take (i := 4) (v := undef) nth4 (by kernel_rfl) (by kernel_rfl) (by kernel_rfl) (fun _ _ _ h => h) (Or.inr ⟨by rfl, rfl⟩) hHeld ?_)
          (try simp only [Act.put]); (try simp only [List.setIfInBounds_toArray]); (try simp only [List.set_cons_succ]); (try simp only [List.set_cons_zero])
          first | (refine wpAnyH_take (i := 5) (v := ?_) nth5 (by kernel_rfl) (by kernel_rfl) (by kernel_rfl) (fun _ _ _ h => h) (Or.inl ⟨by rfl, ?_⟩) hHeld ?_; rotate_left; focus (intro wS hSw; (obtain ⟨_, _, _, _⟩ := hSw.1; obtain ⟨_, _, _, _⟩ := hSw.2.1); go_simp; try with_reducible rfl; done)) | (refine wpAnyH_take (i := 5) (v := undef) nth5 (by kernel_rfl) (by kernel_rfl) (by kernel_rfl) (fun _ _ _ h => h) (Or.inr ⟨by rfl, rfl⟩) hHeld ?_)
          (try simp only [Act.put]); (try simp only [List.setIfInBounds_toArray]); (try simp only [List.set_cons_succ]); (try simp only [List.set_cons_zero])
          refine wpAnyH_ready (rs := [6]) (by kernel_rfl) (by simp) ?_
          refine AllReadyH.cons nth6 (fun K hK => ?_) AllReadyH.nil
          go_simp
          (go_at_call 52; refine (Q.out _).mono ?_; rintro e w' ⟨rfl, hb⟩)
          refine hK.out _ _ (⟨hHeld.1.kept hb, hHeld.2.1.kept hb, hHeld.2.2.1.kept hb, Bel.then hHeld.2.2.2 hb⟩) (fun hHeld => ?_)
          clear hK K
          (try simp only [Act.put]); (try simp only [List.setIfInBounds_toArray]); (try simp only [List.set_cons_succ]); (try simp only [List.set_cons_zero])
          first | (refine wpAnyH_take (i := 7) (v := ?_) nth7 (by kernel_rfl) (by kernel_rfl) (by kernel_rfl) (fun _ _ _ h => h) (Or.inl ⟨by rfl, ?_⟩) hHeld ?_; rotate_left; focus (intro wS hSw; (obtain ⟨_, _, _, _⟩ := hSw.1; obtain ⟨_, _, _, _⟩ := hSw.2.1); go_simp; try with_reducible rfl; done)) | (refine wpAnyH_take (i := 7) (v := undef) nth7 (by kernel_rfl) (by kernel_rfl) (by kernel_rfl) (fun _ _ _ h => h) (Or.inr ⟨by rfl, rfl⟩) hHeld ?_)
          (try simp only [Act.put]); (try simp only [List.setIfInBounds_toArray]); (try simp only [List.set_cons_succ]); (try simp only [List.set_cons_zero])
          first | (refine wpAnyH_take (i := 8) (v := ?_) nth8 (by kernel_rfl) (by kernel_rfl) (by kernel_rfl) (fun _ _ _ h => h) (Or.inl ⟨by rfl, ?_⟩) hHeld ?_; rotate_left; focus (intro wS hSw; (obtain ⟨_, _, _, _⟩ := hSw.1; obtain ⟨_, _, _, _⟩ := hSw.2.1); go_simp; try with_reducible rfl; done)) | (refine wpAnyH_take (i := 8) (v := undef) nth8 (by kernel_rfl) (by kernel_rfl) (by kernel_rfl) (fun _ _ _ h => h) (Or.inr ⟨by rfl, rfl⟩) hHeld ?_)
          (try simp only [Act.put]); (try simp only [List.setIfInBounds_toArray]); (try simp only [List.set_cons_succ]); (try simp only [List.set_cons_zero])
          first | (refine wpAnyH_take (i := 9) (v := ?_) nth9 (by kernel_rfl) (by kernel_rfl) (by kernel_rfl) (fun _ _ _ h => h) (Or.inl ⟨by rfl, ?_⟩) hHeld ?_; rotate_left; focus (intro wS hSw; (obtain ⟨_, _, _, _⟩ := hSw.1; obtain ⟨_, _, _, _⟩ := hSw.2.1); go_simp; try with_reducible rfl; done)) | (refine wpAnyH_take (i := 9) (v := undef) nth9 (by kernel_rfl) (by kernel_rfl) (by kernel_rfl) (fun _ _ _ h => h) (Or.inr ⟨by rfl, rfl⟩) hHeld ?_)
          (try simp only [Act.put]); (try simp only [List.setIfInBounds_toArray]); (try simp only [List.set_cons_succ]); (try simp only [List.set_cons_zero])
          first | (refine wpAnyH_take (i := 10) (v := ?_) nth10 (by kernel_rfl) (by kernel_rfl) (by kernel_rfl) (fun _ _ _ h => h) (Or.inl ⟨by rfl, ?_⟩) hHeld ?_; rotate_left; focus (intro wS hSw; (obtain ⟨_, _, _, _⟩ := hSw.1; obtain ⟨_, _, _, _⟩ := hSw.2.1); go_simp; try with_reducible rfl; done)) | (refine wpAnyH_take (i := 10) (v := undef) nth10 (by kernel_rfl) (by kernel_rfl) (by kernel_rfl) (fun _ _ _ h => h) (Or.inr ⟨by rfl, rfl⟩) hHeld ?_)
          (try simp only [Act.put]); (try simp only [List.setIfInBounds_toArray]); (try simp only [List.set_cons_succ]); (try simp only [List.set_cons_zero])
          first | (refine wpAnyH_take (i := 11) (v := ?_) nth11 (by kernel_rfl) (by kernel_rfl) (by kernel_rfl) (fun _ _ _ h => h) (Or.inl ⟨by rfl, ?_⟩) hHeld ?_; rotate_left; focus (intro wS hSw; (obtain ⟨_, _, _, _⟩ := hSw.1; obtain ⟨_, _, _, _⟩ := hSw.2.1); go_simp; try with_reducible rfl; done)) | (refine wpAnyH_take (i := 11) (v := undef) nth11 (by kernel_rfl) (by kernel_rfl) (by kernel_rfl) (fun _ _ _ h => h) (Or.inr ⟨by rfl, rfl⟩) hHeld ?_)
          (try simp only [Act.put]); (try simp only [List.setIfInBounds_toArray]); (try simp only [List.set_cons_succ]); (try simp only [List.set_cons_zero])
          refine wpAnyH_done (by kernel_rfl) ?_ _
          obtain ⟨C0, _, HX, HB⟩ := hHeld
          replace C0 := hide C0
          replace HX := hide HX
          replace HB := hide HB
          obtain ⟨_, p0, p1, p2⟩ := C0.out
          obtain ⟨⟨c0, c1, c2⟩, ⟨y0, y1, y2⟩⟩ := HX.out.all
          have HS := hide (HX.out.set3 (⟨k, m, s⟩))
          have HBS := hide (below_setV HB.out (Nat.le_refl _) (⟨k, m, s⟩))
          clear HX HB C0
          go_wp2_with fail
          exact end_v Try.results29 rfl rfl HS.out ⟨rfl, HBS.out⟩
    | [], hlen, HR, hs =>
      simp only
      have n1 : ((n : Int) == 2) = false := by simp only [List.length_nil] at hlen; rw [beq_eq_false_iff_ne]; omega
      have n2 : ((n : Int) != 1) = true := by simp only [List.length_nil] at hlen; rw [bne_iff_ne]; omega
      clear hlen HR hs
      have hnu : isN nm [110, 117, 108, 108, 105, 102] = true ∨ isN nm [110, 117, 108, 108, 105, 102] = false := by cases isN nm [110, 117, 108, 108, 105, 102] <;> simp
      unfold isN at hnu
      rcases hnu with hnu | hnu
      all_goals
        obtain ⟨⟨d0, d1, d2⟩, ⟨y0, y1, y2⟩⟩ := HX.out.all
        have HS := hide (HX.out.set3 nullV)
        have HBS := hide (below_setV HB.out (Nat.le_refl _) nullV)
        go_enter Try.func29, Try.ntmps29
        go_upto_region 1 with (fail)
        generalize w.alloc (.cells #[.int .i64 0, .int .i64 0, .string { data := #[] }] 26) = w1 at *
        clear HX HB 
        go_wp2_with fail
        exact end_v Try.results29 rfl rfl HS.out ⟨rfl, HBS.out⟩
    | x :: y :: z :: l, hlen, HR, hs =>
      simp only
      have n1 : ((n : Int) == 2) = false := by simp only [List.length_cons] at hlen; rw [beq_eq_false_iff_ne]; omega
      have n2 : ((n : Int) != 1) = true := by simp only [List.length_cons] at hlen; rw [bne_iff_ne]; omega
      clear hlen HR hs
      have hnu : isN nm [110, 117, 108, 108, 105, 102] = true ∨ isN nm [110, 117, 108, 108, 105, 102] = false := by cases isN nm [110, 117, 108, 108, 105, 102] <;> simp
      unfold isN at hnu
      rcases hnu with hnu | hnu
      all_goals
        obtain ⟨⟨d0, d1, d2⟩, ⟨y0, y1, y2⟩⟩ := HX.out.all
        have HS := hide (HX.out.set3 nullV)
        have HBS := hide (below_setV HB.out (Nat.le_refl _) nullV)
        go_enter Try.func29, Try.ntmps29
        go_upto_region 1 with (fail)
        generalize w.alloc (.cells #[.int .i64 0, .int .i64 0, .string { data := #[] }] 26) = w1 at *
        clear HX HB 
        go_wp2_with fail
        exact end_v Try.results29 rfl rfl HS.out ⟨rfl, HBS.out⟩
end Go.Proofs.Ytlkeghfdpbfhbaa
