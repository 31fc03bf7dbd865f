/- The walk of LikeJoins. -/
import Derived.Test.YtcojhpfnehfppaaLkW
import Derived.Test.YtcojhpfnehfppaaNth
namespace Go.Proofs.Ytcojhpfnehfppaa
set_option linter.unusedVariables false
open Go.ChangeShapes Go.WideShapes Go.ChangeAt Go.RowKit

theorem cat_run (a b : ByteArray) (h : a.size + b.size ≤ 1000000) (W : World) : (binOp .add 9 (.string a) (.string b)).run Try.prog W = .ok (.string (a ++ b)) W := by
  have h2 : (a.size : Int) + b.size ≤ 1000000 := by omega
  simp [go_sem]
  omega
theorem app_list (a b : ByteArray) : (a ++ b).data.toList = a.data.toList ++ b.data.toList := by rw [ByteArray.data_append, Array.toList_append]
theorem no_slash {p : ByteArray} (h : Lib.hasSuffix p.data.toList [92] = false) : p.data.toList.getLast? ≠ some 92 := by
  intro e
  obtain ⟨l, hl⟩ := List.getLast?_eq_some_iff.1 e
  have : Lib.hasSuffix p.data.toList [92] = true := by
    unfold Lib.hasSuffix
    rw [hl, List.isSuffixOf_iff_suffix]
    exact ⟨l, rfl⟩
  rw [this] at h
  cases h
theorem join_match {s0 s1 p0 p1 : ByteArray} (h : Lib.hasSuffix p0.data.toList [92] = false) (h0 : matchB s0 p0 = true) (h1 : matchB s1 p1 = true) : matchB (s0 ++ s1) (p0 ++ p1) = true := by
  unfold matchB at *
  rw [app_list, app_list, signs_app _ _ (no_slash h)]
  exact match_app h0 h1
theorem all_any (s : List UInt8) : matchS [.all] s = true := (match_all_iff [] _).2 ⟨s, [], by simp, by rw [match_nil]; rfl⟩
theorem join_pct {s0 s1 p0 : ByteArray} (h : Lib.hasSuffix p0.data.toList [92] = false) (h0 : matchB s0 p0 = true) : matchB (s0 ++ s1) (p0 ++ { data := #[37] }) = true := by
  unfold matchB at *
  rw [app_list, app_list, signs_app _ _ (no_slash h)]
  exact match_app h0 (all_any _)
theorem join_quotes (s0 s1 : ByteArray) : matchB (s0 ++ s1) (quoteP s0 ++ { data := #[37] } ++ quoteP s1) = true := by
  unfold matchB
  rw [app_list, app_list, app_list]
  have e : (quoteP s0).data.toList = quoteL s0.data.toList := strL_list _
  rw [e, List.append_assoc, signs_quote]
  refine match_app (by rw [match_bytes]; simp) ?_
  show matchS (signsL (37 :: (quoteP s1).data.toList)) _ = true
  rw [signs_one (by decide), quote_sgn]
  exact (match_all_iff _ _).2 ⟨[], s1.data.toList, rfl, by rw [match_bytes]; simp⟩
/-- The two boxed arrays, and that nothing elder has turned. -/
structure BoxJ (w : World) (s0 s1 p0 p1 : ByteArray) (w' : World) : Prop where
  b0 : w'.heap[w.heap.size]? = some (.cells #[.string s0, .string s1] 29 (0, 0))
  b1 : w'.heap[w.heap.size + 1]? = some (.cells #[.string p0, .string p1] 29 (0, 0))
  bel : Below w.heap.size w w'
section
variable {w w' w'' : World} {s0 s1 p0 p1 : ByteArray}
theorem BoxJ.new (w : World) (s0 s1 p0 p1 : ByteArray) : BoxJ w s0 s1 p0 p1 ((w.alloc (.cells #[.string s0, .string s1] 29)).alloc (.cells #[.string p0, .string p1] 29)) := by
  refine ⟨?_, ?_, Bel.alloc (Bel.one _ _) _⟩
  · exact (Below.heap_alloc _ _ _ (by rw [World.size_alloc]; omega)).trans (heap_alloc_new w _)
  · have := heap_alloc_new (w.alloc (.cells #[.string s0, .string s1] 29)) (.cells #[.string p0, .string p1] 29)
    rwa [World.size_alloc] at this
theorem BoxJ.step (h : BoxJ w s0 s1 p0 p1 w') (hb : Below w'.heap.size w' w'') : BoxJ w s0 s1 p0 p1 w'' :=
  ⟨(hb.block _ (Array.getElem?_eq_some_iff.1 h.b0).1).trans h.b0, (hb.block _ (Array.getElem?_eq_some_iff.1 h.b1).1).trans h.b1, Bel.then h.bel hb⟩
theorem BoxJ.drew (h : BoxJ w s0 s1 p0 p1 w') : BoxJ w s0 s1 p0 p1 w'.drew := ⟨h.b0, h.b1, h.bel.drew⟩
theorem BoxJ.cells (h : BoxJ w s0 s1 p0 p1 w') : w'.cell? ⟨w.heap.size, 0, none⟩ = some (.string s0) ∧ w'.cell? ⟨w.heap.size, 1, none⟩ = some (.string s1) ∧ w'.cell? ⟨w.heap.size + 1, 0, none⟩ = some (.string p0) ∧ w'.cell? ⟨w.heap.size + 1, 1, none⟩ = some (.string p1) :=
  ⟨cell_of_row w' _ 0 _ _ (0, 0) h.b0, cell_of_row w' _ 1 _ _ (0, 0) h.b0, cell_of_row w' _ 0 _ _ (0, 0) h.b1, cell_of_row w' _ 1 _ _ (0, 0) h.b1⟩
end
set_option maxRecDepth 100000 in
set_option maxHeartbeats 2000000 in
theorem joins_w (s0 s1 p0 p1 : ByteArray) (w : World) (h0 : s0.size ≤ maxLen) (h1 : s1.size ≤ maxLen) (h2 : p0.size ≤ maxLen) (h3 : p1.size ≤ maxLen) : Calls Try.prog 6 #[.agg #[.string s0, .string s1], .agg #[.string p0, .string p1]] w fun e w' => e = .returned (.bool true) ∧ Below w.heap.size w w' := by
  unfold maxLen at h0 h1 h2 h3
  have F0 := hide (BoxJ.new w s0 s1 p0 p1)
  have QA := hide (fun W => awake_c W)
  by_cases g0 : 100 < s0.size
  · have g0i : (100 : Int) < s0.size := by omega
    go_enter Try.func6, Try.ntmps6
    go_wp2_with fail
    refine (QA.out _).mono ?_
    rintro e w1 ⟨rfl, hb⟩
    have F1 := hide (F0.out.step hb)
    clear hb F0 QA
    go_wp2_with fail
    go_ret
    exact ⟨rfl, F1.out.bel⟩
  have g0i : ¬ (100 : Int) < s0.size := by omega
  have k0 : (s0.size : Int) ≤ 100 := by omega
  by_cases g1 : 100 < s1.size
  · have g1i : (100 : Int) < s1.size := by omega
    go_enter Try.func6, Try.ntmps6
    go_wp2_with fail
    refine (QA.out _).mono ?_
    rintro e w1 ⟨rfl, hb⟩
    have F1 := hide (F0.out.step hb)
    clear hb F0 QA
    go_wp2_with fail
    go_ret
    exact ⟨rfl, F1.out.bel⟩
  have g1i : ¬ (100 : Int) < s1.size := by omega
  have k1 : (s1.size : Int) ≤ 100 := by omega
  by_cases g2 : 100 < p0.size
  · have g2i : (100 : Int) < p0.size := by omega
    go_enter Try.func6, Try.ntmps6
    go_wp2_with fail
    refine (QA.out _).mono ?_
    rintro e w1 ⟨rfl, hb⟩
    have F1 := hide (F0.out.step hb)
    clear hb F0 QA
    go_wp2_with fail
    go_ret
    exact ⟨rfl, F1.out.bel⟩
  have g2i : ¬ (100 : Int) < p0.size := by omega
  have k2 : (p0.size : Int) ≤ 100 := by omega
  by_cases g3 : 100 < p1.size
  · have g3i : (100 : Int) < p1.size := by omega
    go_enter Try.func6, Try.ntmps6
    go_wp2_with fail
    refine (QA.out _).mono ?_
    rintro e w1 ⟨rfl, hb⟩
    have F1 := hide (F0.out.step hb)
    clear hb F0 QA
    go_wp2_with fail
    go_ret
    exact ⟨rfl, F1.out.bel⟩
  have g3i : ¬ (100 : Int) < p1.size := by omega
  have k3 : (p1.size : Int) ≤ 100 := by omega
  have QS := hide (fun W => hasSuffixL_c p0 { data := #[92] } W (by omega))
  have he : ({ data := #[92] } : ByteArray).data.toList = [92] := rfl
  rw [he] at QS
  clear he
  cases hsf : Lib.hasSuffix p0.data.toList [92] with
  | true =>
    rw [hsf] at QS
    clear hsf
    go_enter Try.func6, Try.ntmps6
    go_wp2_with fail
    refine (QS.out _).mono ?_
    rintro e w' ⟨rfl, rfl⟩
    clear QS
    go_wp2_with fail
    refine (QA.out _).mono ?_
    rintro e w1 ⟨rfl, hb⟩
    have F1 := hide (F0.out.step hb)
    clear hb F0 QA
    go_wp2_with fail
    go_ret
    exact ⟨rfl, F1.out.bel⟩
  | false =>
    have hq0 := quote_size s0
    have hq1 := quote_size s1
    have c1 := fun W => cat_run s0 s1 (by omega) W
    have c2 := fun W => cat_run p0 p1 (by omega) W
    have c3 := fun W => cat_run p0 { data := #[37] } (by show p0.size + 1 ≤ _; omega) W
    have c4 := fun W => cat_run (quoteP s0) { data := #[37] } (by show (quoteP s0).size + 1 ≤ _; omega) W
    have hz4 : (quoteP s0 ++ { data := #[37] }).size = (quoteP s0).size + 1 := ByteArray.size_append
    have c5 := fun W => cat_run (quoteP s0 ++ { data := #[37] }) (quoteP s1) (by omega) W
    have z1 : (s0 ++ s1).size = s0.size + s1.size := ByteArray.size_append
    have z2 : (p0 ++ p1).size = p0.size + p1.size := ByteArray.size_append
    have z3 : (p0 ++ { data := #[37] }).size = p0.size + 1 := ByteArray.size_append
    have z5 : (quoteP s0 ++ { data := #[37] } ++ quoteP s1).size = (quoteP s0 ++ { data := #[37] }).size + (quoteP s1).size := ByteArray.size_append
    have QM0 := hide (fun W => match_c s0 p0 W (by omega) (by omega))
    have QM1 := hide (fun W => match_c s1 p1 W (by omega) (by omega))
    have QM2 := hide (fun W => match_c (s0 ++ s1) (p0 ++ p1) W (by omega) (by omega))
    have QM3 := hide (fun W => match_c (s0 ++ s1) (quoteP s0 ++ { data := #[37] } ++ quoteP s1) W (by omega) (by omega))
    have QM4 := hide (fun W => match_c (s0 ++ s1) (p0 ++ { data := #[37] }) W (by omega) (by omega))
    have QQ0 := hide (fun W => quote_c s0 W (by omega))
    have QQ1 := hide (fun W => quote_c s1 W (by omega))
    unfold GivesS at QQ0 QQ1
    rw [join_quotes] at QM3
    have hj1 := fun a b => @join_match s0 s1 p0 p1 hsf a b
    have hj2 := fun a => @join_pct s0 s1 p0 hsf a
    rw [hsf] at QS
    generalize quoteP s0 = q0 at *
    generalize quoteP s1 = q1 at *
    have n1 : ¬ 9223372036854775807 < s0.size + s1.size := by omega
    have n2 : ¬ 9223372036854775807 < p0.size + p1.size := by omega
    have n3 : ¬ 9223372036854775807 < p0.size + 1 := by omega
    have n4 : ¬ 9223372036854775807 < q0.size + 1 := by omega
    have n5 : ¬ 9223372036854775807 < q0.size + 1 + q1.size := by omega
    have n6 : ¬ 9223372036854775807 < (q0 ++ { data := #[37] }).size + q1.size := by omega
    clear z1 z2 z3 z5 hz4 hq0 hq1 hsf c1 c2 c3 c4 c5
    cases hm0 : matchB s0 p0 with
    | true =>
      rw [hm0] at QM0
      rw [hj2 hm0] at QM4
      cases hm1 : matchB s1 p1 with
      | true =>
        rw [hm1] at QM1
        rw [hj1 hm0 hm1] at QM2
        clear hm0 hm1 hj1 hj2
        go_enter Try.func6, Try.ntmps6
        go_wp2_with fail
        refine (QS.out _).mono ?_
        rintro e w' ⟨rfl, rfl⟩
        clear QS
        go_wp2_with fail
        refine (QM0.out _).mono ?_
        rintro e w1 ⟨rfl, hb⟩
        have F1 := hide (F0.out.step hb)
        clear hb
        obtain ⟨e0, e1, e2, e3⟩ := F1.out.cells
        go_wp2_with fail
        clear e0 e1 e2 e3
        refine (QM1.out _).mono ?_
        rintro e w2 ⟨rfl, hb⟩
        have F2 := hide (F1.out.step hb)
        clear hb
        obtain ⟨e0, e1, e2, e3⟩ := F2.out.cells
        go_wp2_with fail
        clear e0 e1 e2 e3
        refine (QM2.out _).mono ?_
        rintro e w3 ⟨rfl, hb⟩
        have F3 := hide (F2.out.step hb)
        clear hb
        obtain ⟨e0, e1, e2, e3⟩ := F3.out.cells
        go_wp2_with fail
        clear e0 e1 e2 e3
        refine wp_region_held_drew (S := (fun w' => BoxJ w s0 s1 p0 p1 w')) (by kernel_rfl) (F3.out.drew) (fun hHeld => ?_)
        refine wpAnyH_ready (rs := [0]) (by kernel_rfl) (by simp) ?_
        refine AllReadyH.cons nth0 (fun K hK => ?_) AllReadyH.nil
        go_simp
        first | (go_at_call 7; refine (QA.out _).mono ?_; rintro e w' ⟨rfl, hb⟩) | (go_at_call 14; with_reducible refine (QQ0.out _).mono ?_; rintro e w' ⟨rfl, hb⟩) | (go_at_call 14; with_reducible refine (QQ1.out _).mono ?_; rintro e w' ⟨rfl, hb⟩) | (go_at_call 10; with_reducible refine (QM0.out _).mono ?_; rintro e w' ⟨rfl, hb⟩) | (go_at_call 10; with_reducible refine (QM3.out _).mono ?_; rintro e w' ⟨rfl, hb⟩) | (go_at_call 10; with_reducible refine (QM4.out _).mono ?_; rintro e w' ⟨rfl, hb⟩)
        refine hK.out _ _ (hHeld.step hb) (fun hHeld => ?_)
        clear hK K
        (try simp only [Act.put]); (try simp only [List.setIfInBounds_toArray]); (try simp only [List.set_cons_succ]); (try simp only [List.set_cons_zero])
        first | (refine wpAnyH_take (i := 1) (v := ?_) nth1 (by kernel_rfl) (by kernel_rfl) (by kernel_rfl) (fun _ _ _ h => h) (Or.inl ⟨by rfl, ?_⟩) hHeld ?_; rotate_left; focus (intro wS hSw; (obtain ⟨e0, e1, e2, e3⟩ := hSw.cells); go_simp; try with_reducible rfl; done)) | (refine wpAnyH_take (i := 1) (v := undef) nth1 (by kernel_rfl) (by kernel_rfl) (by kernel_rfl) (fun _ _ _ h => h) (Or.inr ⟨by rfl, rfl⟩) hHeld ?_)
        (try simp only [Act.put]); (try simp only [List.setIfInBounds_toArray]); (try simp only [List.set_cons_succ]); (try simp only [List.set_cons_zero])
        first | (refine wpAnyH_take (i := 2) (v := ?_) nth2 (by kernel_rfl) (by kernel_rfl) (by kernel_rfl) (fun _ _ _ h => h) (Or.inl ⟨by rfl, ?_⟩) hHeld ?_; rotate_left; focus (intro wS hSw; (obtain ⟨e0, e1, e2, e3⟩ := hSw.cells); go_simp; try with_reducible rfl; done)) | (refine wpAnyH_take (i := 2) (v := undef) nth2 (by kernel_rfl) (by kernel_rfl) (by kernel_rfl) (fun _ _ _ h => h) (Or.inr ⟨by rfl, rfl⟩) hHeld ?_)
        (try simp only [Act.put]); (try simp only [List.setIfInBounds_toArray]); (try simp only [List.set_cons_succ]); (try simp only [List.set_cons_zero])
        first | (refine wpAnyH_take (i := 3) (v := ?_) nth3 (by kernel_rfl) (by kernel_rfl) (by kernel_rfl) (fun _ _ _ h => h) (Or.inl ⟨by rfl, ?_⟩) hHeld ?_; rotate_left; focus (intro wS hSw; (obtain ⟨e0, e1, e2, e3⟩ := hSw.cells); go_simp; try with_reducible rfl; done)) | (refine wpAnyH_take (i := 3) (v := undef) nth3 (by kernel_rfl) (by kernel_rfl) (by kernel_rfl) (fun _ _ _ h => h) (Or.inr ⟨by rfl, rfl⟩) hHeld ?_)
        (try simp only [Act.put]); (try simp only [List.setIfInBounds_toArray]); (try simp only [List.set_cons_succ]); (try simp only [List.set_cons_zero])
        first | (refine wpAnyH_take (i := 4) (v := ?_) nth4 (by kernel_rfl) (by kernel_rfl) (by kernel_rfl) (fun _ _ _ h => h) (Or.inl ⟨by rfl, ?_⟩) hHeld ?_; rotate_left; focus (intro wS hSw; (obtain ⟨e0, e1, e2, e3⟩ := hSw.cells); go_simp; try with_reducible rfl; done)) | (refine wpAnyH_take (i := 4) (v := undef) nth4 (by kernel_rfl) (by kernel_rfl) (by kernel_rfl) (fun _ _ _ h => h) (Or.inr ⟨by rfl, rfl⟩) hHeld ?_)
        (try simp only [Act.put]); (try simp only [List.setIfInBounds_toArray]); (try simp only [List.set_cons_succ]); (try simp only [List.set_cons_zero])
        first | (refine wpAnyH_take (i := 5) (v := ?_) nth5 (by kernel_rfl) (by kernel_rfl) (by kernel_rfl) (fun _ _ _ h => h) (Or.inl ⟨by rfl, ?_⟩) hHeld ?_; rotate_left; focus (intro wS hSw; (obtain ⟨e0, e1, e2, e3⟩ := hSw.cells); go_simp; try with_reducible rfl; done)) | (refine wpAnyH_take (i := 5) (v := undef) nth5 (by kernel_rfl) (by kernel_rfl) (by kernel_rfl) (fun _ _ _ h => h) (Or.inr ⟨by rfl, rfl⟩) hHeld ?_)
        (try simp only [Act.put]); (try simp only [List.setIfInBounds_toArray]); (try simp only [List.set_cons_succ]); (try simp only [List.set_cons_zero])
        first | (refine wpAnyH_take (i := 6) (v := ?_) nth6 (by kernel_rfl) (by kernel_rfl) (by kernel_rfl) (fun _ _ _ h => h) (Or.inl ⟨by rfl, ?_⟩) hHeld ?_; rotate_left; focus (intro wS hSw; (obtain ⟨e0, e1, e2, e3⟩ := hSw.cells); go_simp; try with_reducible rfl; done)) | (refine wpAnyH_take (i := 6) (v := undef) nth6 (by kernel_rfl) (by kernel_rfl) (by kernel_rfl) (fun _ _ _ h => h) (Or.inr ⟨by rfl, rfl⟩) hHeld ?_)
        (try simp only [Act.put]); (try simp only [List.setIfInBounds_toArray]); (try simp only [List.set_cons_succ]); (try simp only [List.set_cons_zero])
        first | (refine wpAnyH_take (i := 7) (v := ?_) nth7 (by kernel_rfl) (by kernel_rfl) (by kernel_rfl) (fun _ _ _ h => h) (Or.inl ⟨by rfl, ?_⟩) hHeld ?_; rotate_left; focus (intro wS hSw; (obtain ⟨e0, e1, e2, e3⟩ := hSw.cells); go_simp; try with_reducible rfl; done)) | (refine wpAnyH_take (i := 7) (v := undef) nth7 (by kernel_rfl) (by kernel_rfl) (by kernel_rfl) (fun _ _ _ h => h) (Or.inr ⟨by rfl, rfl⟩) hHeld ?_)
        (try simp only [Act.put]); (try simp only [List.setIfInBounds_toArray]); (try simp only [List.set_cons_succ]); (try simp only [List.set_cons_zero])
        first | (refine wpAnyH_take (i := 8) (v := ?_) nth8 (by kernel_rfl) (by kernel_rfl) (by kernel_rfl) (fun _ _ _ h => h) (Or.inl ⟨by rfl, ?_⟩) hHeld ?_; rotate_left; focus (intro wS hSw; (obtain ⟨e0, e1, e2, e3⟩ := hSw.cells); go_simp; try with_reducible rfl; done)) | (refine wpAnyH_take (i := 8) (v := undef) nth8 (by kernel_rfl) (by kernel_rfl) (by kernel_rfl) (fun _ _ _ h => h) (Or.inr ⟨by rfl, rfl⟩) hHeld ?_)
        (try simp only [Act.put]); (try simp only [List.setIfInBounds_toArray]); (try simp only [List.set_cons_succ]); (try simp only [List.set_cons_zero])
        first | (refine wpAnyH_take (i := 11) (v := ?_) nth11 (by kernel_rfl) (by kernel_rfl) (by kernel_rfl) (fun _ _ _ h => h) (Or.inl ⟨by rfl, ?_⟩) hHeld ?_; rotate_left; focus (intro wS hSw; (obtain ⟨e0, e1, e2, e3⟩ := hSw.cells); go_simp; try with_reducible rfl; done)) | (refine wpAnyH_take (i := 11) (v := undef) nth11 (by kernel_rfl) (by kernel_rfl) (by kernel_rfl) (fun _ _ _ h => h) (Or.inr ⟨by rfl, rfl⟩) hHeld ?_)
        (try simp only [Act.put]); (try simp only [List.setIfInBounds_toArray]); (try simp only [List.set_cons_succ]); (try simp only [List.set_cons_zero])
        first | (refine wpAnyH_take (i := 12) (v := ?_) nth12 (by kernel_rfl) (by kernel_rfl) (by kernel_rfl) (fun _ _ _ h => h) (Or.inl ⟨by rfl, ?_⟩) hHeld ?_; rotate_left; focus (intro wS hSw; (obtain ⟨e0, e1, e2, e3⟩ := hSw.cells); go_simp; try with_reducible rfl; done)) | (refine wpAnyH_take (i := 12) (v := undef) nth12 (by kernel_rfl) (by kernel_rfl) (by kernel_rfl) (fun _ _ _ h => h) (Or.inr ⟨by rfl, rfl⟩) hHeld ?_)
        (try simp only [Act.put]); (try simp only [List.setIfInBounds_toArray]); (try simp only [List.set_cons_succ]); (try simp only [List.set_cons_zero])
        refine wpAnyH_ready (rs := [9]) (by kernel_rfl) (by simp) ?_
        refine AllReadyH.cons nth9 (fun K hK => ?_) AllReadyH.nil
        go_simp
        first | (go_at_call 7; refine (QA.out _).mono ?_; rintro e w' ⟨rfl, hb⟩) | (go_at_call 14; with_reducible refine (QQ0.out _).mono ?_; rintro e w' ⟨rfl, hb⟩) | (go_at_call 14; with_reducible refine (QQ1.out _).mono ?_; rintro e w' ⟨rfl, hb⟩) | (go_at_call 10; with_reducible refine (QM0.out _).mono ?_; rintro e w' ⟨rfl, hb⟩) | (go_at_call 10; with_reducible refine (QM3.out _).mono ?_; rintro e w' ⟨rfl, hb⟩) | (go_at_call 10; with_reducible refine (QM4.out _).mono ?_; rintro e w' ⟨rfl, hb⟩)
        refine hK.out _ _ (hHeld.step hb) (fun hHeld => ?_)
        clear hK K
        (try simp only [Act.put]); (try simp only [List.setIfInBounds_toArray]); (try simp only [List.set_cons_succ]); (try simp only [List.set_cons_zero])
        first | (refine wpAnyH_take (i := 10) (v := ?_) nth10 (by kernel_rfl) (by kernel_rfl) (by kernel_rfl) (fun _ _ _ h => h) (Or.inl ⟨by rfl, ?_⟩) hHeld ?_; rotate_left; focus (intro wS hSw; (obtain ⟨e0, e1, e2, e3⟩ := hSw.cells); go_simp; try with_reducible rfl; done)) | (refine wpAnyH_take (i := 10) (v := undef) nth10 (by kernel_rfl) (by kernel_rfl) (by kernel_rfl) (fun _ _ _ h => h) (Or.inr ⟨by rfl, rfl⟩) hHeld ?_)
        (try simp only [Act.put]); (try simp only [List.setIfInBounds_toArray]); (try simp only [List.set_cons_succ]); (try simp only [List.set_cons_zero])
        refine wpAnyH_ready (rs := [13]) (by kernel_rfl) (by simp) ?_
        refine AllReadyH.cons nth13 (fun K hK => ?_) AllReadyH.nil
        go_simp
        first | (go_at_call 7; refine (QA.out _).mono ?_; rintro e w' ⟨rfl, hb⟩) | (go_at_call 14; with_reducible refine (QQ0.out _).mono ?_; rintro e w' ⟨rfl, hb⟩) | (go_at_call 14; with_reducible refine (QQ1.out _).mono ?_; rintro e w' ⟨rfl, hb⟩) | (go_at_call 10; with_reducible refine (QM0.out _).mono ?_; rintro e w' ⟨rfl, hb⟩) | (go_at_call 10; with_reducible refine (QM3.out _).mono ?_; rintro e w' ⟨rfl, hb⟩) | (go_at_call 10; with_reducible refine (QM4.out _).mono ?_; rintro e w' ⟨rfl, hb⟩)
        refine hK.out _ _ (hHeld.step hb) (fun hHeld => ?_)
        clear hK K
        (try simp only [Act.put]); (try simp only [List.setIfInBounds_toArray]); (try simp only [List.set_cons_succ]); (try simp only [List.set_cons_zero])
        first | (refine wpAnyH_take (i := 14) (v := ?_) nth14 (by kernel_rfl) (by kernel_rfl) (by kernel_rfl) (fun _ _ _ h => h) (Or.inl ⟨by rfl, ?_⟩) hHeld ?_; rotate_left; focus (intro wS hSw; (obtain ⟨e0, e1, e2, e3⟩ := hSw.cells); go_simp; try with_reducible rfl; done)) | (refine wpAnyH_take (i := 14) (v := undef) nth14 (by kernel_rfl) (by kernel_rfl) (by kernel_rfl) (fun _ _ _ h => h) (Or.inr ⟨by rfl, rfl⟩) hHeld ?_)
        (try simp only [Act.put]); (try simp only [List.setIfInBounds_toArray]); (try simp only [List.set_cons_succ]); (try simp only [List.set_cons_zero])
        refine wpAnyH_ready (rs := [15]) (by kernel_rfl) (by simp) ?_
        refine AllReadyH.cons nth15 (fun K hK => ?_) AllReadyH.nil
        go_simp
        first | (go_at_call 7; refine (QA.out _).mono ?_; rintro e w' ⟨rfl, hb⟩) | (go_at_call 14; with_reducible refine (QQ0.out _).mono ?_; rintro e w' ⟨rfl, hb⟩) | (go_at_call 14; with_reducible refine (QQ1.out _).mono ?_; rintro e w' ⟨rfl, hb⟩) | (go_at_call 10; with_reducible refine (QM0.out _).mono ?_; rintro e w' ⟨rfl, hb⟩) | (go_at_call 10; with_reducible refine (QM3.out _).mono ?_; rintro e w' ⟨rfl, hb⟩) | (go_at_call 10; with_reducible refine (QM4.out _).mono ?_; rintro e w' ⟨rfl, hb⟩)
        refine hK.out _ _ (hHeld.step hb) (fun hHeld => ?_)
        clear hK K
        (try simp only [Act.put]); (try simp only [List.setIfInBounds_toArray]); (try simp only [List.set_cons_succ]); (try simp only [List.set_cons_zero])
        first | (refine wpAnyH_take (i := 16) (v := ?_) nth16 (by kernel_rfl) (by kernel_rfl) (by kernel_rfl) (fun _ _ _ h => h) (Or.inl ⟨by rfl, ?_⟩) hHeld ?_; rotate_left; focus (intro wS hSw; (obtain ⟨e0, e1, e2, e3⟩ := hSw.cells); go_simp; try with_reducible rfl; done)) | (refine wpAnyH_take (i := 16) (v := undef) nth16 (by kernel_rfl) (by kernel_rfl) (by kernel_rfl) (fun _ _ _ h => h) (Or.inr ⟨by rfl, rfl⟩) hHeld ?_)
        (try simp only [Act.put]); (try simp only [List.setIfInBounds_toArray]); (try simp only [List.set_cons_succ]); (try simp only [List.set_cons_zero])
        first | (refine wpAnyH_take (i := 17) (v := ?_) nth17 (by kernel_rfl) (by kernel_rfl) (by kernel_rfl) (fun _ _ _ h => h) (Or.inl ⟨by rfl, ?_⟩) hHeld ?_; rotate_left; focus (intro wS hSw; (obtain ⟨e0, e1, e2, e3⟩ := hSw.cells); go_simp; try with_reducible rfl; done)) | (refine wpAnyH_take (i := 17) (v := undef) nth17 (by kernel_rfl) (by kernel_rfl) (by kernel_rfl) (fun _ _ _ h => h) (Or.inr ⟨by rfl, rfl⟩) hHeld ?_)
        (try simp only [Act.put]); (try simp only [List.setIfInBounds_toArray]); (try simp only [List.set_cons_succ]); (try simp only [List.set_cons_zero])
        first | (refine wpAnyH_take (i := 18) (v := ?_) nth18 (by kernel_rfl) (by kernel_rfl) (by kernel_rfl) (fun _ _ _ h => h) (Or.inl ⟨by rfl, ?_⟩) hHeld ?_; rotate_left; focus (intro wS hSw; (obtain ⟨e0, e1, e2, e3⟩ := hSw.cells); go_simp; try with_reducible rfl; done)) | (refine wpAnyH_take (i := 18) (v := undef) nth18 (by kernel_rfl) (by kernel_rfl) (by kernel_rfl) (fun _ _ _ h => h) (Or.inr ⟨by rfl, rfl⟩) hHeld ?_)
        (try simp only [Act.put]); (try simp only [List.setIfInBounds_toArray]); (try simp only [List.set_cons_succ]); (try simp only [List.set_cons_zero])
        first | (refine wpAnyH_take (i := 19) (v := ?_) nth19 (by kernel_rfl) (by kernel_rfl) (by kernel_rfl) (fun _ _ _ h => h) (Or.inl ⟨by rfl, ?_⟩) hHeld ?_; rotate_left; focus (intro wS hSw; (obtain ⟨e0, e1, e2, e3⟩ := hSw.cells); go_simp; try with_reducible rfl; done)) | (refine wpAnyH_take (i := 19) (v := undef) nth19 (by kernel_rfl) (by kernel_rfl) (by kernel_rfl) (fun _ _ _ h => h) (Or.inr ⟨by rfl, rfl⟩) hHeld ?_)
        (try simp only [Act.put]); (try simp only [List.setIfInBounds_toArray]); (try simp only [List.set_cons_succ]); (try simp only [List.set_cons_zero])
        first | (refine wpAnyH_take (i := 20) (v := ?_) nth20 (by kernel_rfl) (by kernel_rfl) (by kernel_rfl) (fun _ _ _ h => h) (Or.inl ⟨by rfl, ?_⟩) hHeld ?_; rotate_left; focus (intro wS hSw; (obtain ⟨e0, e1, e2, e3⟩ := hSw.cells); go_simp; try with_reducible rfl; done)) | (refine wpAnyH_take (i := 20) (v := undef) nth20 (by kernel_rfl) (by kernel_rfl) (by kernel_rfl) (fun _ _ _ h => h) (Or.inr ⟨by rfl, rfl⟩) hHeld ?_)
        (try simp only [Act.put]); (try simp only [List.setIfInBounds_toArray]); (try simp only [List.set_cons_succ]); (try simp only [List.set_cons_zero])
        first | (refine wpAnyH_take (i := 21) (v := ?_) nth21 (by kernel_rfl) (by kernel_rfl) (by kernel_rfl) (fun _ _ _ h => h) (Or.inl ⟨by rfl, ?_⟩) hHeld ?_; rotate_left; focus (intro wS hSw; (obtain ⟨e0, e1, e2, e3⟩ := hSw.cells); go_simp; try with_reducible rfl; done)) | (refine wpAnyH_take (i := 21) (v := undef) nth21 (by kernel_rfl) (by kernel_rfl) (by kernel_rfl) (fun _ _ _ h => h) (Or.inr ⟨by rfl, rfl⟩) hHeld ?_)
        (try simp only [Act.put]); (try simp only [List.setIfInBounds_toArray]); (try simp only [List.set_cons_succ]); (try simp only [List.set_cons_zero])
        refine wpAnyH_ready (rs := [22]) (by kernel_rfl) (by simp) ?_
        refine AllReadyH.cons nth22 (fun K hK => ?_) AllReadyH.nil
        go_simp
        first | (go_at_call 7; refine (QA.out _).mono ?_; rintro e w' ⟨rfl, hb⟩) | (go_at_call 14; with_reducible refine (QQ0.out _).mono ?_; rintro e w' ⟨rfl, hb⟩) | (go_at_call 14; with_reducible refine (QQ1.out _).mono ?_; rintro e w' ⟨rfl, hb⟩) | (go_at_call 10; with_reducible refine (QM0.out _).mono ?_; rintro e w' ⟨rfl, hb⟩) | (go_at_call 10; with_reducible refine (QM3.out _).mono ?_; rintro e w' ⟨rfl, hb⟩) | (go_at_call 10; with_reducible refine (QM4.out _).mono ?_; rintro e w' ⟨rfl, hb⟩)
        refine hK.out _ _ (hHeld.step hb) (fun hHeld => ?_)
        clear hK K
        (try simp only [Act.put]); (try simp only [List.setIfInBounds_toArray]); (try simp only [List.set_cons_succ]); (try simp only [List.set_cons_zero])
        first | (refine wpAnyH_take (i := 23) (v := ?_) nth23 (by kernel_rfl) (by kernel_rfl) (by kernel_rfl) (fun _ _ _ h => h) (Or.inl ⟨by rfl, ?_⟩) hHeld ?_; rotate_left; focus (intro wS hSw; (obtain ⟨e0, e1, e2, e3⟩ := hSw.cells); go_simp; try with_reducible rfl; done)) | (refine wpAnyH_take (i := 23) (v := undef) nth23 (by kernel_rfl) (by kernel_rfl) (by kernel_rfl) (fun _ _ _ h => h) (Or.inr ⟨by rfl, rfl⟩) hHeld ?_)
        (try simp only [Act.put]); (try simp only [List.setIfInBounds_toArray]); (try simp only [List.set_cons_succ]); (try simp only [List.set_cons_zero])
        first | (refine wpAnyH_take (i := 24) (v := ?_) nth24 (by kernel_rfl) (by kernel_rfl) (by kernel_rfl) (fun _ _ _ h => h) (Or.inl ⟨by rfl, ?_⟩) hHeld ?_; rotate_left; focus (intro wS hSw; (obtain ⟨e0, e1, e2, e3⟩ := hSw.cells); go_simp; try with_reducible rfl; done)) | (refine wpAnyH_take (i := 24) (v := undef) nth24 (by kernel_rfl) (by kernel_rfl) (by kernel_rfl) (fun _ _ _ h => h) (Or.inr ⟨by rfl, rfl⟩) hHeld ?_)
        (try simp only [Act.put]); (try simp only [List.setIfInBounds_toArray]); (try simp only [List.set_cons_succ]); (try simp only [List.set_cons_zero])
        first | (refine wpAnyH_take (i := 25) (v := ?_) nth25 (by kernel_rfl) (by kernel_rfl) (by kernel_rfl) (fun _ _ _ h => h) (Or.inl ⟨by rfl, ?_⟩) hHeld ?_; rotate_left; focus (intro wS hSw; (obtain ⟨e0, e1, e2, e3⟩ := hSw.cells); go_simp; try with_reducible rfl; done)) | (refine wpAnyH_take (i := 25) (v := undef) nth25 (by kernel_rfl) (by kernel_rfl) (by kernel_rfl) (fun _ _ _ h => h) (Or.inr ⟨by rfl, rfl⟩) hHeld ?_)
        (try simp only [Act.put]); (try simp only [List.setIfInBounds_toArray]); (try simp only [List.set_cons_succ]); (try simp only [List.set_cons_zero])
        first | (refine wpAnyH_take (i := 26) (v := ?_) nth26 (by kernel_rfl) (by kernel_rfl) (by kernel_rfl) (fun _ _ _ h => h) (Or.inl ⟨by rfl, ?_⟩) hHeld ?_; rotate_left; focus (intro wS hSw; (obtain ⟨e0, e1, e2, e3⟩ := hSw.cells); go_simp; try with_reducible rfl; done)) | (refine wpAnyH_take (i := 26) (v := undef) nth26 (by kernel_rfl) (by kernel_rfl) (by kernel_rfl) (fun _ _ _ h => h) (Or.inr ⟨by rfl, rfl⟩) hHeld ?_)
        (try simp only [Act.put]); (try simp only [List.setIfInBounds_toArray]); (try simp only [List.set_cons_succ]); (try simp only [List.set_cons_zero])
        first | (refine wpAnyH_take (i := 27) (v := ?_) nth27 (by kernel_rfl) (by kernel_rfl) (by kernel_rfl) (fun _ _ _ h => h) (Or.inl ⟨by rfl, ?_⟩) hHeld ?_; rotate_left; focus (intro wS hSw; (obtain ⟨e0, e1, e2, e3⟩ := hSw.cells); go_simp; try with_reducible rfl; done)) | (refine wpAnyH_take (i := 27) (v := undef) nth27 (by kernel_rfl) (by kernel_rfl) (by kernel_rfl) (fun _ _ _ h => h) (Or.inr ⟨by rfl, rfl⟩) hHeld ?_)
        (try simp only [Act.put]); (try simp only [List.setIfInBounds_toArray]); (try simp only [List.set_cons_succ]); (try simp only [List.set_cons_zero])
        first | (refine wpAnyH_take (i := 28) (v := ?_) nth28 (by kernel_rfl) (by kernel_rfl) (by kernel_rfl) (fun _ _ _ h => h) (Or.inl ⟨by rfl, ?_⟩) hHeld ?_; rotate_left; focus (intro wS hSw; (obtain ⟨e0, e1, e2, e3⟩ := hSw.cells); go_simp; try with_reducible rfl; done)) | (refine wpAnyH_take (i := 28) (v := undef) nth28 (by kernel_rfl) (by kernel_rfl) (by kernel_rfl) (fun _ _ _ h => h) (Or.inr ⟨by rfl, rfl⟩) hHeld ?_)
        (try simp only [Act.put]); (try simp only [List.setIfInBounds_toArray]); (try simp only [List.set_cons_succ]); (try simp only [List.set_cons_zero])
        first | (refine wpAnyH_take (i := 29) (v := ?_) nth29 (by kernel_rfl) (by kernel_rfl) (by kernel_rfl) (fun _ _ _ h => h) (Or.inl ⟨by rfl, ?_⟩) hHeld ?_; rotate_left; focus (intro wS hSw; (obtain ⟨e0, e1, e2, e3⟩ := hSw.cells); go_simp; try with_reducible rfl; done)) | (refine wpAnyH_take (i := 29) (v := undef) nth29 (by kernel_rfl) (by kernel_rfl) (by kernel_rfl) (fun _ _ _ h => h) (Or.inr ⟨by rfl, rfl⟩) hHeld ?_)
        (try simp only [Act.put]); (try simp only [List.setIfInBounds_toArray]); (try simp only [List.set_cons_succ]); (try simp only [List.set_cons_zero])
        first | (refine wpAnyH_take (i := 30) (v := ?_) nth30 (by kernel_rfl) (by kernel_rfl) (by kernel_rfl) (fun _ _ _ h => h) (Or.inl ⟨by rfl, ?_⟩) hHeld ?_; rotate_left; focus (intro wS hSw; (obtain ⟨e0, e1, e2, e3⟩ := hSw.cells); go_simp; try with_reducible rfl; done)) | (refine wpAnyH_take (i := 30) (v := undef) nth30 (by kernel_rfl) (by kernel_rfl) (by kernel_rfl) (fun _ _ _ h => h) (Or.inr ⟨by rfl, rfl⟩) hHeld ?_)
        (try simp only [Act.put]); (try simp only [List.setIfInBounds_toArray]); (try simp only [List.set_cons_succ]); (try simp only [List.set_cons_zero])
        first | (refine wpAnyH_take (i := 31) (v := ?_) nth31 (by kernel_rfl) (by kernel_rfl) (by kernel_rfl) (fun _ _ _ h => h) (Or.inl ⟨by rfl, ?_⟩) hHeld ?_; rotate_left; focus (intro wS hSw; (obtain ⟨e0, e1, e2, e3⟩ := hSw.cells); go_simp; try with_reducible rfl; done)) | (refine wpAnyH_take (i := 31) (v := undef) nth31 (by kernel_rfl) (by kernel_rfl) (by kernel_rfl) (fun _ _ _ h => h) (Or.inr ⟨by rfl, rfl⟩) hHeld ?_)
        (try simp only [Act.put]); (try simp only [List.setIfInBounds_toArray]); (try simp only [List.set_cons_succ]); (try simp only [List.set_cons_zero])
        first | (refine wpAnyH_take (i := 32) (v := ?_) nth32 (by kernel_rfl) (by kernel_rfl) (by kernel_rfl) (fun _ _ _ h => h) (Or.inl ⟨by rfl, ?_⟩) hHeld ?_; rotate_left; focus (intro wS hSw; (obtain ⟨e0, e1, e2, e3⟩ := hSw.cells); go_simp; try with_reducible rfl; done)) | (refine wpAnyH_take (i := 32) (v := undef) nth32 (by kernel_rfl) (by kernel_rfl) (by kernel_rfl) (fun _ _ _ h => h) (Or.inr ⟨by rfl, rfl⟩) hHeld ?_)
        (try simp only [Act.put]); (try simp only [List.setIfInBounds_toArray]); (try simp only [List.set_cons_succ]); (try simp only [List.set_cons_zero])
        refine wpAnyH_ready (rs := [33]) (by kernel_rfl) (by simp) ?_
        refine AllReadyH.cons nth33 (fun K hK => ?_) AllReadyH.nil
        go_simp
        first | (go_at_call 7; refine (QA.out _).mono ?_; rintro e w' ⟨rfl, hb⟩) | (go_at_call 14; with_reducible refine (QQ0.out _).mono ?_; rintro e w' ⟨rfl, hb⟩) | (go_at_call 14; with_reducible refine (QQ1.out _).mono ?_; rintro e w' ⟨rfl, hb⟩) | (go_at_call 10; with_reducible refine (QM0.out _).mono ?_; rintro e w' ⟨rfl, hb⟩) | (go_at_call 10; with_reducible refine (QM3.out _).mono ?_; rintro e w' ⟨rfl, hb⟩) | (go_at_call 10; with_reducible refine (QM4.out _).mono ?_; rintro e w' ⟨rfl, hb⟩)
        refine hK.out _ _ (hHeld.step hb) (fun hHeld => ?_)
        clear hK K
        (try simp only [Act.put]); (try simp only [List.setIfInBounds_toArray]); (try simp only [List.set_cons_succ]); (try simp only [List.set_cons_zero])
        first | (refine wpAnyH_take (i := 34) (v := ?_) nth34 (by kernel_rfl) (by kernel_rfl) (by kernel_rfl) (fun _ _ _ h => h) (Or.inl ⟨by rfl, ?_⟩) hHeld ?_; rotate_left; focus (intro wS hSw; (obtain ⟨e0, e1, e2, e3⟩ := hSw.cells); go_simp; try with_reducible rfl; done)) | (refine wpAnyH_take (i := 34) (v := undef) nth34 (by kernel_rfl) (by kernel_rfl) (by kernel_rfl) (fun _ _ _ h => h) (Or.inr ⟨by rfl, rfl⟩) hHeld ?_)
        (try simp only [Act.put]); (try simp only [List.setIfInBounds_toArray]); (try simp only [List.set_cons_succ]); (try simp only [List.set_cons_zero])
        first | (refine wpAnyH_take (i := 35) (v := ?_) nth35 (by kernel_rfl) (by kernel_rfl) (by kernel_rfl) (fun _ _ _ h => h) (Or.inl ⟨by rfl, ?_⟩) hHeld ?_; rotate_left; focus (intro wS hSw; (obtain ⟨e0, e1, e2, e3⟩ := hSw.cells); go_simp; try with_reducible rfl; done)) | (refine wpAnyH_take (i := 35) (v := undef) nth35 (by kernel_rfl) (by kernel_rfl) (by kernel_rfl) (fun _ _ _ h => h) (Or.inr ⟨by rfl, rfl⟩) hHeld ?_)
        (try simp only [Act.put]); (try simp only [List.setIfInBounds_toArray]); (try simp only [List.set_cons_succ]); (try simp only [List.set_cons_zero])
        first | (refine wpAnyH_take (i := 36) (v := ?_) nth36 (by kernel_rfl) (by kernel_rfl) (by kernel_rfl) (fun _ _ _ h => h) (Or.inl ⟨by rfl, ?_⟩) hHeld ?_; rotate_left; focus (intro wS hSw; (obtain ⟨e0, e1, e2, e3⟩ := hSw.cells); go_simp; try with_reducible rfl; done)) | (refine wpAnyH_take (i := 36) (v := undef) nth36 (by kernel_rfl) (by kernel_rfl) (by kernel_rfl) (fun _ _ _ h => h) (Or.inr ⟨by rfl, rfl⟩) hHeld ?_)
        (try simp only [Act.put]); (try simp only [List.setIfInBounds_toArray]); (try simp only [List.set_cons_succ]); (try simp only [List.set_cons_zero])
        refine wpAnyH_done (by kernel_rfl) ?_ _
        go_wp2_with fail
        go_ret
        exact ⟨rfl, hHeld.bel⟩
      | false =>
        rw [hm1] at QM1
        clear hm0 hm1 hj1 hj2
        go_enter Try.func6, Try.ntmps6
        go_wp2_with fail
        refine (QS.out _).mono ?_
        rintro e w' ⟨rfl, rfl⟩
        clear QS
        go_wp2_with fail
        refine (QM0.out _).mono ?_
        rintro e w1 ⟨rfl, hb⟩
        have F1 := hide (F0.out.step hb)
        clear hb
        obtain ⟨e0, e1, e2, e3⟩ := F1.out.cells
        go_wp2_with fail
        clear e0 e1 e2 e3
        refine (QM1.out _).mono ?_
        rintro e w2 ⟨rfl, hb⟩
        have F2 := hide (F1.out.step hb)
        clear hb
        obtain ⟨e0, e1, e2, e3⟩ := F2.out.cells
        go_wp2_with fail
        clear e0 e1 e2 e3
        refine wp_region_held_drew (S := (fun w' => BoxJ w s0 s1 p0 p1 w')) (by kernel_rfl) (F2.out.drew) (fun hHeld => ?_)
        refine wpAnyH_ready (rs := [0]) (by kernel_rfl) (by simp) ?_
        refine AllReadyH.cons nth0 (fun K hK => ?_) AllReadyH.nil
        go_simp
        first | (go_at_call 7; refine (QA.out _).mono ?_; rintro e w' ⟨rfl, hb⟩) | (go_at_call 14; with_reducible refine (QQ0.out _).mono ?_; rintro e w' ⟨rfl, hb⟩) | (go_at_call 14; with_reducible refine (QQ1.out _).mono ?_; rintro e w' ⟨rfl, hb⟩) | (go_at_call 10; with_reducible refine (QM0.out _).mono ?_; rintro e w' ⟨rfl, hb⟩) | (go_at_call 10; with_reducible refine (QM3.out _).mono ?_; rintro e w' ⟨rfl, hb⟩) | (go_at_call 10; with_reducible refine (QM4.out _).mono ?_; rintro e w' ⟨rfl, hb⟩)
        refine hK.out _ _ (hHeld.step hb) (fun hHeld => ?_)
        clear hK K
        (try simp only [Act.put]); (try simp only [List.setIfInBounds_toArray]); (try simp only [List.set_cons_succ]); (try simp only [List.set_cons_zero])
        first | (refine wpAnyH_take (i := 1) (v := ?_) nth1 (by kernel_rfl) (by kernel_rfl) (by kernel_rfl) (fun _ _ _ h => h) (Or.inl ⟨by rfl, ?_⟩) hHeld ?_; rotate_left; focus (intro wS hSw; (obtain ⟨e0, e1, e2, e3⟩ := hSw.cells); go_simp; try with_reducible rfl; done)) | (refine wpAnyH_take (i := 1) (v := undef) nth1 (by kernel_rfl) (by kernel_rfl) (by kernel_rfl) (fun _ _ _ h => h) (Or.inr ⟨by rfl, rfl⟩) hHeld ?_)
        (try simp only [Act.put]); (try simp only [List.setIfInBounds_toArray]); (try simp only [List.set_cons_succ]); (try simp only [List.set_cons_zero])
        first | (refine wpAnyH_take (i := 2) (v := ?_) nth2 (by kernel_rfl) (by kernel_rfl) (by kernel_rfl) (fun _ _ _ h => h) (Or.inl ⟨by rfl, ?_⟩) hHeld ?_; rotate_left; focus (intro wS hSw; (obtain ⟨e0, e1, e2, e3⟩ := hSw.cells); go_simp; try with_reducible rfl; done)) | (refine wpAnyH_take (i := 2) (v := undef) nth2 (by kernel_rfl) (by kernel_rfl) (by kernel_rfl) (fun _ _ _ h => h) (Or.inr ⟨by rfl, rfl⟩) hHeld ?_)
        (try simp only [Act.put]); (try simp only [List.setIfInBounds_toArray]); (try simp only [List.set_cons_succ]); (try simp only [List.set_cons_zero])
        first | (refine wpAnyH_take (i := 3) (v := ?_) nth3 (by kernel_rfl) (by kernel_rfl) (by kernel_rfl) (fun _ _ _ h => h) (Or.inl ⟨by rfl, ?_⟩) hHeld ?_; rotate_left; focus (intro wS hSw; (obtain ⟨e0, e1, e2, e3⟩ := hSw.cells); go_simp; try with_reducible rfl; done)) | (refine wpAnyH_take (i := 3) (v := undef) nth3 (by kernel_rfl) (by kernel_rfl) (by kernel_rfl) (fun _ _ _ h => h) (Or.inr ⟨by rfl, rfl⟩) hHeld ?_)
        (try simp only [Act.put]); (try simp only [List.setIfInBounds_toArray]); (try simp only [List.set_cons_succ]); (try simp only [List.set_cons_zero])
        first | (refine wpAnyH_take (i := 4) (v := ?_) nth4 (by kernel_rfl) (by kernel_rfl) (by kernel_rfl) (fun _ _ _ h => h) (Or.inl ⟨by rfl, ?_⟩) hHeld ?_; rotate_left; focus (intro wS hSw; (obtain ⟨e0, e1, e2, e3⟩ := hSw.cells); go_simp; try with_reducible rfl; done)) | (refine wpAnyH_take (i := 4) (v := undef) nth4 (by kernel_rfl) (by kernel_rfl) (by kernel_rfl) (fun _ _ _ h => h) (Or.inr ⟨by rfl, rfl⟩) hHeld ?_)
        (try simp only [Act.put]); (try simp only [List.setIfInBounds_toArray]); (try simp only [List.set_cons_succ]); (try simp only [List.set_cons_zero])
        first | (refine wpAnyH_take (i := 5) (v := ?_) nth5 (by kernel_rfl) (by kernel_rfl) (by kernel_rfl) (fun _ _ _ h => h) (Or.inl ⟨by rfl, ?_⟩) hHeld ?_; rotate_left; focus (intro wS hSw; (obtain ⟨e0, e1, e2, e3⟩ := hSw.cells); go_simp; try with_reducible rfl; done)) | (refine wpAnyH_take (i := 5) (v := undef) nth5 (by kernel_rfl) (by kernel_rfl) (by kernel_rfl) (fun _ _ _ h => h) (Or.inr ⟨by rfl, rfl⟩) hHeld ?_)
        (try simp only [Act.put]); (try simp only [List.setIfInBounds_toArray]); (try simp only [List.set_cons_succ]); (try simp only [List.set_cons_zero])
        first | (refine wpAnyH_take (i := 6) (v := ?_) nth6 (by kernel_rfl) (by kernel_rfl) (by kernel_rfl) (fun _ _ _ h => h) (Or.inl ⟨by rfl, ?_⟩) hHeld ?_; rotate_left; focus (intro wS hSw; (obtain ⟨e0, e1, e2, e3⟩ := hSw.cells); go_simp; try with_reducible rfl; done)) | (refine wpAnyH_take (i := 6) (v := undef) nth6 (by kernel_rfl) (by kernel_rfl) (by kernel_rfl) (fun _ _ _ h => h) (Or.inr ⟨by rfl, rfl⟩) hHeld ?_)
        (try simp only [Act.put]); (try simp only [List.setIfInBounds_toArray]); (try simp only [List.set_cons_succ]); (try simp only [List.set_cons_zero])
        first | (refine wpAnyH_take (i := 7) (v := ?_) nth7 (by kernel_rfl) (by kernel_rfl) (by kernel_rfl) (fun _ _ _ h => h) (Or.inl ⟨by rfl, ?_⟩) hHeld ?_; rotate_left; focus (intro wS hSw; (obtain ⟨e0, e1, e2, e3⟩ := hSw.cells); go_simp; try with_reducible rfl; done)) | (refine wpAnyH_take (i := 7) (v := undef) nth7 (by kernel_rfl) (by kernel_rfl) (by kernel_rfl) (fun _ _ _ h => h) (Or.inr ⟨by rfl, rfl⟩) hHeld ?_)
        (try simp only [Act.put]); (try simp only [List.setIfInBounds_toArray]); (try simp only [List.set_cons_succ]); (try simp only [List.set_cons_zero])
        first | (refine wpAnyH_take (i := 8) (v := ?_) nth8 (by kernel_rfl) (by kernel_rfl) (by kernel_rfl) (fun _ _ _ h => h) (Or.inl ⟨by rfl, ?_⟩) hHeld ?_; rotate_left; focus (intro wS hSw; (obtain ⟨e0, e1, e2, e3⟩ := hSw.cells); go_simp; try with_reducible rfl; done)) | (refine wpAnyH_take (i := 8) (v := undef) nth8 (by kernel_rfl) (by kernel_rfl) (by kernel_rfl) (fun _ _ _ h => h) (Or.inr ⟨by rfl, rfl⟩) hHeld ?_)
        (try simp only [Act.put]); (try simp only [List.setIfInBounds_toArray]); (try simp only [List.set_cons_succ]); (try simp only [List.set_cons_zero])
        first | (refine wpAnyH_take (i := 11) (v := ?_) nth11 (by kernel_rfl) (by kernel_rfl) (by kernel_rfl) (fun _ _ _ h => h) (Or.inl ⟨by rfl, ?_⟩) hHeld ?_; rotate_left; focus (intro wS hSw; (obtain ⟨e0, e1, e2, e3⟩ := hSw.cells); go_simp; try with_reducible rfl; done)) | (refine wpAnyH_take (i := 11) (v := undef) nth11 (by kernel_rfl) (by kernel_rfl) (by kernel_rfl) (fun _ _ _ h => h) (Or.inr ⟨by rfl, rfl⟩) hHeld ?_)
        (try simp only [Act.put]); (try simp only [List.setIfInBounds_toArray]); (try simp only [List.set_cons_succ]); (try simp only [List.set_cons_zero])
        first | (refine wpAnyH_take (i := 12) (v := ?_) nth12 (by kernel_rfl) (by kernel_rfl) (by kernel_rfl) (fun _ _ _ h => h) (Or.inl ⟨by rfl, ?_⟩) hHeld ?_; rotate_left; focus (intro wS hSw; (obtain ⟨e0, e1, e2, e3⟩ := hSw.cells); go_simp; try with_reducible rfl; done)) | (refine wpAnyH_take (i := 12) (v := undef) nth12 (by kernel_rfl) (by kernel_rfl) (by kernel_rfl) (fun _ _ _ h => h) (Or.inr ⟨by rfl, rfl⟩) hHeld ?_)
        (try simp only [Act.put]); (try simp only [List.setIfInBounds_toArray]); (try simp only [List.set_cons_succ]); (try simp only [List.set_cons_zero])
        refine wpAnyH_ready (rs := [9]) (by kernel_rfl) (by simp) ?_
        refine AllReadyH.cons nth9 (fun K hK => ?_) AllReadyH.nil
        go_simp
        first | (go_at_call 7; refine (QA.out _).mono ?_; rintro e w' ⟨rfl, hb⟩) | (go_at_call 14; with_reducible refine (QQ0.out _).mono ?_; rintro e w' ⟨rfl, hb⟩) | (go_at_call 14; with_reducible refine (QQ1.out _).mono ?_; rintro e w' ⟨rfl, hb⟩) | (go_at_call 10; with_reducible refine (QM0.out _).mono ?_; rintro e w' ⟨rfl, hb⟩) | (go_at_call 10; with_reducible refine (QM3.out _).mono ?_; rintro e w' ⟨rfl, hb⟩) | (go_at_call 10; with_reducible refine (QM4.out _).mono ?_; rintro e w' ⟨rfl, hb⟩)
        refine hK.out _ _ (hHeld.step hb) (fun hHeld => ?_)
        clear hK K
        (try simp only [Act.put]); (try simp only [List.setIfInBounds_toArray]); (try simp only [List.set_cons_succ]); (try simp only [List.set_cons_zero])
        first | (refine wpAnyH_take (i := 10) (v := ?_) nth10 (by kernel_rfl) (by kernel_rfl) (by kernel_rfl) (fun _ _ _ h => h) (Or.inl ⟨by rfl, ?_⟩) hHeld ?_; rotate_left; focus (intro wS hSw; (obtain ⟨e0, e1, e2, e3⟩ := hSw.cells); go_simp; try with_reducible rfl; done)) | (refine wpAnyH_take (i := 10) (v := undef) nth10 (by kernel_rfl) (by kernel_rfl) (by kernel_rfl) (fun _ _ _ h => h) (Or.inr ⟨by rfl, rfl⟩) hHeld ?_)
        (try simp only [Act.put]); (try simp only [List.setIfInBounds_toArray]); (try simp only [List.set_cons_succ]); (try simp only [List.set_cons_zero])
        refine wpAnyH_ready (rs := [13]) (by kernel_rfl) (by simp) ?_
        refine AllReadyH.cons nth13 (fun K hK => ?_) AllReadyH.nil
        go_simp
        first | (go_at_call 7; refine (QA.out _).mono ?_; rintro e w' ⟨rfl, hb⟩) | (go_at_call 14; with_reducible refine (QQ0.out _).mono ?_; rintro e w' ⟨rfl, hb⟩) | (go_at_call 14; with_reducible refine (QQ1.out _).mono ?_; rintro e w' ⟨rfl, hb⟩) | (go_at_call 10; with_reducible refine (QM0.out _).mono ?_; rintro e w' ⟨rfl, hb⟩) | (go_at_call 10; with_reducible refine (QM3.out _).mono ?_; rintro e w' ⟨rfl, hb⟩) | (go_at_call 10; with_reducible refine (QM4.out _).mono ?_; rintro e w' ⟨rfl, hb⟩)
        refine hK.out _ _ (hHeld.step hb) (fun hHeld => ?_)
        clear hK K
        (try simp only [Act.put]); (try simp only [List.setIfInBounds_toArray]); (try simp only [List.set_cons_succ]); (try simp only [List.set_cons_zero])
        first | (refine wpAnyH_take (i := 14) (v := ?_) nth14 (by kernel_rfl) (by kernel_rfl) (by kernel_rfl) (fun _ _ _ h => h) (Or.inl ⟨by rfl, ?_⟩) hHeld ?_; rotate_left; focus (intro wS hSw; (obtain ⟨e0, e1, e2, e3⟩ := hSw.cells); go_simp; try with_reducible rfl; done)) | (refine wpAnyH_take (i := 14) (v := undef) nth14 (by kernel_rfl) (by kernel_rfl) (by kernel_rfl) (fun _ _ _ h => h) (Or.inr ⟨by rfl, rfl⟩) hHeld ?_)
        (try simp only [Act.put]); (try simp only [List.setIfInBounds_toArray]); (try simp only [List.set_cons_succ]); (try simp only [List.set_cons_zero])
        refine wpAnyH_ready (rs := [15]) (by kernel_rfl) (by simp) ?_
        refine AllReadyH.cons nth15 (fun K hK => ?_) AllReadyH.nil
        go_simp
        first | (go_at_call 7; refine (QA.out _).mono ?_; rintro e w' ⟨rfl, hb⟩) | (go_at_call 14; with_reducible refine (QQ0.out _).mono ?_; rintro e w' ⟨rfl, hb⟩) | (go_at_call 14; with_reducible refine (QQ1.out _).mono ?_; rintro e w' ⟨rfl, hb⟩) | (go_at_call 10; with_reducible refine (QM0.out _).mono ?_; rintro e w' ⟨rfl, hb⟩) | (go_at_call 10; with_reducible refine (QM3.out _).mono ?_; rintro e w' ⟨rfl, hb⟩) | (go_at_call 10; with_reducible refine (QM4.out _).mono ?_; rintro e w' ⟨rfl, hb⟩)
        refine hK.out _ _ (hHeld.step hb) (fun hHeld => ?_)
        clear hK K
        (try simp only [Act.put]); (try simp only [List.setIfInBounds_toArray]); (try simp only [List.set_cons_succ]); (try simp only [List.set_cons_zero])
        first | (refine wpAnyH_take (i := 16) (v := ?_) nth16 (by kernel_rfl) (by kernel_rfl) (by kernel_rfl) (fun _ _ _ h => h) (Or.inl ⟨by rfl, ?_⟩) hHeld ?_; rotate_left; focus (intro wS hSw; (obtain ⟨e0, e1, e2, e3⟩ := hSw.cells); go_simp; try with_reducible rfl; done)) | (refine wpAnyH_take (i := 16) (v := undef) nth16 (by kernel_rfl) (by kernel_rfl) (by kernel_rfl) (fun _ _ _ h => h) (Or.inr ⟨by rfl, rfl⟩) hHeld ?_)
        (try simp only [Act.put]); (try simp only [List.setIfInBounds_toArray]); (try simp only [List.set_cons_succ]); (try simp only [List.set_cons_zero])
        first | (refine wpAnyH_take (i := 17) (v := ?_) nth17 (by kernel_rfl) (by kernel_rfl) (by kernel_rfl) (fun _ _ _ h => h) (Or.inl ⟨by rfl, ?_⟩) hHeld ?_; rotate_left; focus (intro wS hSw; (obtain ⟨e0, e1, e2, e3⟩ := hSw.cells); go_simp; try with_reducible rfl; done)) | (refine wpAnyH_take (i := 17) (v := undef) nth17 (by kernel_rfl) (by kernel_rfl) (by kernel_rfl) (fun _ _ _ h => h) (Or.inr ⟨by rfl, rfl⟩) hHeld ?_)
        (try simp only [Act.put]); (try simp only [List.setIfInBounds_toArray]); (try simp only [List.set_cons_succ]); (try simp only [List.set_cons_zero])
        first | (refine wpAnyH_take (i := 18) (v := ?_) nth18 (by kernel_rfl) (by kernel_rfl) (by kernel_rfl) (fun _ _ _ h => h) (Or.inl ⟨by rfl, ?_⟩) hHeld ?_; rotate_left; focus (intro wS hSw; (obtain ⟨e0, e1, e2, e3⟩ := hSw.cells); go_simp; try with_reducible rfl; done)) | (refine wpAnyH_take (i := 18) (v := undef) nth18 (by kernel_rfl) (by kernel_rfl) (by kernel_rfl) (fun _ _ _ h => h) (Or.inr ⟨by rfl, rfl⟩) hHeld ?_)
        (try simp only [Act.put]); (try simp only [List.setIfInBounds_toArray]); (try simp only [List.set_cons_succ]); (try simp only [List.set_cons_zero])
        first | (refine wpAnyH_take (i := 19) (v := ?_) nth19 (by kernel_rfl) (by kernel_rfl) (by kernel_rfl) (fun _ _ _ h => h) (Or.inl ⟨by rfl, ?_⟩) hHeld ?_; rotate_left; focus (intro wS hSw; (obtain ⟨e0, e1, e2, e3⟩ := hSw.cells); go_simp; try with_reducible rfl; done)) | (refine wpAnyH_take (i := 19) (v := undef) nth19 (by kernel_rfl) (by kernel_rfl) (by kernel_rfl) (fun _ _ _ h => h) (Or.inr ⟨by rfl, rfl⟩) hHeld ?_)
        (try simp only [Act.put]); (try simp only [List.setIfInBounds_toArray]); (try simp only [List.set_cons_succ]); (try simp only [List.set_cons_zero])
        first | (refine wpAnyH_take (i := 20) (v := ?_) nth20 (by kernel_rfl) (by kernel_rfl) (by kernel_rfl) (fun _ _ _ h => h) (Or.inl ⟨by rfl, ?_⟩) hHeld ?_; rotate_left; focus (intro wS hSw; (obtain ⟨e0, e1, e2, e3⟩ := hSw.cells); go_simp; try with_reducible rfl; done)) | (refine wpAnyH_take (i := 20) (v := undef) nth20 (by kernel_rfl) (by kernel_rfl) (by kernel_rfl) (fun _ _ _ h => h) (Or.inr ⟨by rfl, rfl⟩) hHeld ?_)
        (try simp only [Act.put]); (try simp only [List.setIfInBounds_toArray]); (try simp only [List.set_cons_succ]); (try simp only [List.set_cons_zero])
        first | (refine wpAnyH_take (i := 21) (v := ?_) nth21 (by kernel_rfl) (by kernel_rfl) (by kernel_rfl) (fun _ _ _ h => h) (Or.inl ⟨by rfl, ?_⟩) hHeld ?_; rotate_left; focus (intro wS hSw; (obtain ⟨e0, e1, e2, e3⟩ := hSw.cells); go_simp; try with_reducible rfl; done)) | (refine wpAnyH_take (i := 21) (v := undef) nth21 (by kernel_rfl) (by kernel_rfl) (by kernel_rfl) (fun _ _ _ h => h) (Or.inr ⟨by rfl, rfl⟩) hHeld ?_)
        (try simp only [Act.put]); (try simp only [List.setIfInBounds_toArray]); (try simp only [List.set_cons_succ]); (try simp only [List.set_cons_zero])
        refine wpAnyH_ready (rs := [22]) (by kernel_rfl) (by simp) ?_
        refine AllReadyH.cons nth22 (fun K hK => ?_) AllReadyH.nil
        go_simp
        first | (go_at_call 7; refine (QA.out _).mono ?_; rintro e w' ⟨rfl, hb⟩) | (go_at_call 14; with_reducible refine (QQ0.out _).mono ?_; rintro e w' ⟨rfl, hb⟩) | (go_at_call 14; with_reducible refine (QQ1.out _).mono ?_; rintro e w' ⟨rfl, hb⟩) | (go_at_call 10; with_reducible refine (QM0.out _).mono ?_; rintro e w' ⟨rfl, hb⟩) | (go_at_call 10; with_reducible refine (QM3.out _).mono ?_; rintro e w' ⟨rfl, hb⟩) | (go_at_call 10; with_reducible refine (QM4.out _).mono ?_; rintro e w' ⟨rfl, hb⟩)
        refine hK.out _ _ (hHeld.step hb) (fun hHeld => ?_)
        clear hK K
        (try simp only [Act.put]); (try simp only [List.setIfInBounds_toArray]); (try simp only [List.set_cons_succ]); (try simp only [List.set_cons_zero])
        first | (refine wpAnyH_take (i := 23) (v := ?_) nth23 (by kernel_rfl) (by kernel_rfl) (by kernel_rfl) (fun _ _ _ h => h) (Or.inl ⟨by rfl, ?_⟩) hHeld ?_; rotate_left; focus (intro wS hSw; (obtain ⟨e0, e1, e2, e3⟩ := hSw.cells); go_simp; try with_reducible rfl; done)) | (refine wpAnyH_take (i := 23) (v := undef) nth23 (by kernel_rfl) (by kernel_rfl) (by kernel_rfl) (fun _ _ _ h => h) (Or.inr ⟨by rfl, rfl⟩) hHeld ?_)
        (try simp only [Act.put]); (try simp only [List.setIfInBounds_toArray]); (try simp only [List.set_cons_succ]); (try simp only [List.set_cons_zero])
        first | (refine wpAnyH_take (i := 24) (v := ?_) nth24 (by kernel_rfl) (by kernel_rfl) (by kernel_rfl) (fun _ _ _ h => h) (Or.inl ⟨by rfl, ?_⟩) hHeld ?_; rotate_left; focus (intro wS hSw; (obtain ⟨e0, e1, e2, e3⟩ := hSw.cells); go_simp; try with_reducible rfl; done)) | (refine wpAnyH_take (i := 24) (v := undef) nth24 (by kernel_rfl) (by kernel_rfl) (by kernel_rfl) (fun _ _ _ h => h) (Or.inr ⟨by rfl, rfl⟩) hHeld ?_)
        (try simp only [Act.put]); (try simp only [List.setIfInBounds_toArray]); (try simp only [List.set_cons_succ]); (try simp only [List.set_cons_zero])
        first | (refine wpAnyH_take (i := 25) (v := ?_) nth25 (by kernel_rfl) (by kernel_rfl) (by kernel_rfl) (fun _ _ _ h => h) (Or.inl ⟨by rfl, ?_⟩) hHeld ?_; rotate_left; focus (intro wS hSw; (obtain ⟨e0, e1, e2, e3⟩ := hSw.cells); go_simp; try with_reducible rfl; done)) | (refine wpAnyH_take (i := 25) (v := undef) nth25 (by kernel_rfl) (by kernel_rfl) (by kernel_rfl) (fun _ _ _ h => h) (Or.inr ⟨by rfl, rfl⟩) hHeld ?_)
        (try simp only [Act.put]); (try simp only [List.setIfInBounds_toArray]); (try simp only [List.set_cons_succ]); (try simp only [List.set_cons_zero])
        first | (refine wpAnyH_take (i := 26) (v := ?_) nth26 (by kernel_rfl) (by kernel_rfl) (by kernel_rfl) (fun _ _ _ h => h) (Or.inl ⟨by rfl, ?_⟩) hHeld ?_; rotate_left; focus (intro wS hSw; (obtain ⟨e0, e1, e2, e3⟩ := hSw.cells); go_simp; try with_reducible rfl; done)) | (refine wpAnyH_take (i := 26) (v := undef) nth26 (by kernel_rfl) (by kernel_rfl) (by kernel_rfl) (fun _ _ _ h => h) (Or.inr ⟨by rfl, rfl⟩) hHeld ?_)
        (try simp only [Act.put]); (try simp only [List.setIfInBounds_toArray]); (try simp only [List.set_cons_succ]); (try simp only [List.set_cons_zero])
        first | (refine wpAnyH_take (i := 27) (v := ?_) nth27 (by kernel_rfl) (by kernel_rfl) (by kernel_rfl) (fun _ _ _ h => h) (Or.inl ⟨by rfl, ?_⟩) hHeld ?_; rotate_left; focus (intro wS hSw; (obtain ⟨e0, e1, e2, e3⟩ := hSw.cells); go_simp; try with_reducible rfl; done)) | (refine wpAnyH_take (i := 27) (v := undef) nth27 (by kernel_rfl) (by kernel_rfl) (by kernel_rfl) (fun _ _ _ h => h) (Or.inr ⟨by rfl, rfl⟩) hHeld ?_)
        (try simp only [Act.put]); (try simp only [List.setIfInBounds_toArray]); (try simp only [List.set_cons_succ]); (try simp only [List.set_cons_zero])
        first | (refine wpAnyH_take (i := 28) (v := ?_) nth28 (by kernel_rfl) (by kernel_rfl) (by kernel_rfl) (fun _ _ _ h => h) (Or.inl ⟨by rfl, ?_⟩) hHeld ?_; rotate_left; focus (intro wS hSw; (obtain ⟨e0, e1, e2, e3⟩ := hSw.cells); go_simp; try with_reducible rfl; done)) | (refine wpAnyH_take (i := 28) (v := undef) nth28 (by kernel_rfl) (by kernel_rfl) (by kernel_rfl) (fun _ _ _ h => h) (Or.inr ⟨by rfl, rfl⟩) hHeld ?_)
        (try simp only [Act.put]); (try simp only [List.setIfInBounds_toArray]); (try simp only [List.set_cons_succ]); (try simp only [List.set_cons_zero])
        first | (refine wpAnyH_take (i := 29) (v := ?_) nth29 (by kernel_rfl) (by kernel_rfl) (by kernel_rfl) (fun _ _ _ h => h) (Or.inl ⟨by rfl, ?_⟩) hHeld ?_; rotate_left; focus (intro wS hSw; (obtain ⟨e0, e1, e2, e3⟩ := hSw.cells); go_simp; try with_reducible rfl; done)) | (refine wpAnyH_take (i := 29) (v := undef) nth29 (by kernel_rfl) (by kernel_rfl) (by kernel_rfl) (fun _ _ _ h => h) (Or.inr ⟨by rfl, rfl⟩) hHeld ?_)
        (try simp only [Act.put]); (try simp only [List.setIfInBounds_toArray]); (try simp only [List.set_cons_succ]); (try simp only [List.set_cons_zero])
        first | (refine wpAnyH_take (i := 30) (v := ?_) nth30 (by kernel_rfl) (by kernel_rfl) (by kernel_rfl) (fun _ _ _ h => h) (Or.inl ⟨by rfl, ?_⟩) hHeld ?_; rotate_left; focus (intro wS hSw; (obtain ⟨e0, e1, e2, e3⟩ := hSw.cells); go_simp; try with_reducible rfl; done)) | (refine wpAnyH_take (i := 30) (v := undef) nth30 (by kernel_rfl) (by kernel_rfl) (by kernel_rfl) (fun _ _ _ h => h) (Or.inr ⟨by rfl, rfl⟩) hHeld ?_)
        (try simp only [Act.put]); (try simp only [List.setIfInBounds_toArray]); (try simp only [List.set_cons_succ]); (try simp only [List.set_cons_zero])
        first | (refine wpAnyH_take (i := 31) (v := ?_) nth31 (by kernel_rfl) (by kernel_rfl) (by kernel_rfl) (fun _ _ _ h => h) (Or.inl ⟨by rfl, ?_⟩) hHeld ?_; rotate_left; focus (intro wS hSw; (obtain ⟨e0, e1, e2, e3⟩ := hSw.cells); go_simp; try with_reducible rfl; done)) | (refine wpAnyH_take (i := 31) (v := undef) nth31 (by kernel_rfl) (by kernel_rfl) (by kernel_rfl) (fun _ _ _ h => h) (Or.inr ⟨by rfl, rfl⟩) hHeld ?_)
        (try simp only [Act.put]); (try simp only [List.setIfInBounds_toArray]); (try simp only [List.set_cons_succ]); (try simp only [List.set_cons_zero])
        first | (refine wpAnyH_take (i := 32) (v := ?_) nth32 (by kernel_rfl) (by kernel_rfl) (by kernel_rfl) (fun _ _ _ h => h) (Or.inl ⟨by rfl, ?_⟩) hHeld ?_; rotate_left; focus (intro wS hSw; (obtain ⟨e0, e1, e2, e3⟩ := hSw.cells); go_simp; try with_reducible rfl; done)) | (refine wpAnyH_take (i := 32) (v := undef) nth32 (by kernel_rfl) (by kernel_rfl) (by kernel_rfl) (fun _ _ _ h => h) (Or.inr ⟨by rfl, rfl⟩) hHeld ?_)
        (try simp only [Act.put]); (try simp only [List.setIfInBounds_toArray]); (try simp only [List.set_cons_succ]); (try simp only [List.set_cons_zero])
        refine wpAnyH_ready (rs := [33]) (by kernel_rfl) (by simp) ?_
        refine AllReadyH.cons nth33 (fun K hK => ?_) AllReadyH.nil
        go_simp
        first | (go_at_call 7; refine (QA.out _).mono ?_; rintro e w' ⟨rfl, hb⟩) | (go_at_call 14; with_reducible refine (QQ0.out _).mono ?_; rintro e w' ⟨rfl, hb⟩) | (go_at_call 14; with_reducible refine (QQ1.out _).mono ?_; rintro e w' ⟨rfl, hb⟩) | (go_at_call 10; with_reducible refine (QM0.out _).mono ?_; rintro e w' ⟨rfl, hb⟩) | (go_at_call 10; with_reducible refine (QM3.out _).mono ?_; rintro e w' ⟨rfl, hb⟩) | (go_at_call 10; with_reducible refine (QM4.out _).mono ?_; rintro e w' ⟨rfl, hb⟩)
        refine hK.out _ _ (hHeld.step hb) (fun hHeld => ?_)
        clear hK K
        (try simp only [Act.put]); (try simp only [List.setIfInBounds_toArray]); (try simp only [List.set_cons_succ]); (try simp only [List.set_cons_zero])
        first | (refine wpAnyH_take (i := 34) (v := ?_) nth34 (by kernel_rfl) (by kernel_rfl) (by kernel_rfl) (fun _ _ _ h => h) (Or.inl ⟨by rfl, ?_⟩) hHeld ?_; rotate_left; focus (intro wS hSw; (obtain ⟨e0, e1, e2, e3⟩ := hSw.cells); go_simp; try with_reducible rfl; done)) | (refine wpAnyH_take (i := 34) (v := undef) nth34 (by kernel_rfl) (by kernel_rfl) (by kernel_rfl) (fun _ _ _ h => h) (Or.inr ⟨by rfl, rfl⟩) hHeld ?_)
        (try simp only [Act.put]); (try simp only [List.setIfInBounds_toArray]); (try simp only [List.set_cons_succ]); (try simp only [List.set_cons_zero])
        first | (refine wpAnyH_take (i := 35) (v := ?_) nth35 (by kernel_rfl) (by kernel_rfl) (by kernel_rfl) (fun _ _ _ h => h) (Or.inl ⟨by rfl, ?_⟩) hHeld ?_; rotate_left; focus (intro wS hSw; (obtain ⟨e0, e1, e2, e3⟩ := hSw.cells); go_simp; try with_reducible rfl; done)) | (refine wpAnyH_take (i := 35) (v := undef) nth35 (by kernel_rfl) (by kernel_rfl) (by kernel_rfl) (fun _ _ _ h => h) (Or.inr ⟨by rfl, rfl⟩) hHeld ?_)
        (try simp only [Act.put]); (try simp only [List.setIfInBounds_toArray]); (try simp only [List.set_cons_succ]); (try simp only [List.set_cons_zero])
        first | (refine wpAnyH_take (i := 36) (v := ?_) nth36 (by kernel_rfl) (by kernel_rfl) (by kernel_rfl) (fun _ _ _ h => h) (Or.inl ⟨by rfl, ?_⟩) hHeld ?_; rotate_left; focus (intro wS hSw; (obtain ⟨e0, e1, e2, e3⟩ := hSw.cells); go_simp; try with_reducible rfl; done)) | (refine wpAnyH_take (i := 36) (v := undef) nth36 (by kernel_rfl) (by kernel_rfl) (by kernel_rfl) (fun _ _ _ h => h) (Or.inr ⟨by rfl, rfl⟩) hHeld ?_)
        (try simp only [Act.put]); (try simp only [List.setIfInBounds_toArray]); (try simp only [List.set_cons_succ]); (try simp only [List.set_cons_zero])
        refine wpAnyH_done (by kernel_rfl) ?_ _
        go_wp2_with fail
        go_ret
        exact ⟨rfl, hHeld.bel⟩
    | false =>
      rw [hm0] at QM0
      clear hm0 hj1 hj2
      go_enter Try.func6, Try.ntmps6
      go_wp2_with fail
      refine (QS.out _).mono ?_
      rintro e w' ⟨rfl, rfl⟩
      clear QS
      go_wp2_with fail
      refine (QM0.out _).mono ?_
      rintro e w1 ⟨rfl, hb⟩
      have F1 := hide (F0.out.step hb)
      clear hb
      obtain ⟨e0, e1, e2, e3⟩ := F1.out.cells
      go_wp2_with fail
      clear e0 e1 e2 e3
      refine wp_region_held_drew (S := (fun w' => BoxJ w s0 s1 p0 p1 w')) (by kernel_rfl) (F1.out.drew) (fun hHeld => ?_)
      refine wpAnyH_ready (rs := [0]) (by kernel_rfl) (by simp) ?_
      refine AllReadyH.cons nth0 (fun K hK => ?_) AllReadyH.nil
      go_simp
      first | (go_at_call 7; refine (QA.out _).mono ?_; rintro e w' ⟨rfl, hb⟩) | (go_at_call 14; with_reducible refine (QQ0.out _).mono ?_; rintro e w' ⟨rfl, hb⟩) | (go_at_call 14; with_reducible refine (QQ1.out _).mono ?_; rintro e w' ⟨rfl, hb⟩) | (go_at_call 10; with_reducible refine (QM0.out _).mono ?_; rintro e w' ⟨rfl, hb⟩) | (go_at_call 10; with_reducible refine (QM3.out _).mono ?_; rintro e w' ⟨rfl, hb⟩) | (go_at_call 10; with_reducible refine (QM4.out _).mono ?_; rintro e w' ⟨rfl, hb⟩)
      refine hK.out _ _ (hHeld.step hb) (fun hHeld => ?_)
      clear hK K
      (try simp only [Act.put]); (try simp only [List.setIfInBounds_toArray]); (try simp only [List.set_cons_succ]); (try simp only [List.set_cons_zero])
      first | (refine wpAnyH_take (i := 1) (v := ?_) nth1 (by kernel_rfl) (by kernel_rfl) (by kernel_rfl) (fun _ _ _ h => h) (Or.inl ⟨by rfl, ?_⟩) hHeld ?_; rotate_left; focus (intro wS hSw; (obtain ⟨e0, e1, e2, e3⟩ := hSw.cells); go_simp; try with_reducible rfl; done)) | (refine wpAnyH_take (i := 1) (v := undef) nth1 (by kernel_rfl) (by kernel_rfl) (by kernel_rfl) (fun _ _ _ h => h) (Or.inr ⟨by rfl, rfl⟩) hHeld ?_)
      (try simp only [Act.put]); (try simp only [List.setIfInBounds_toArray]); (try simp only [List.set_cons_succ]); (try simp only [List.set_cons_zero])
      first | (refine wpAnyH_take (i := 2) (v := ?_) nth2 (by kernel_rfl) (by kernel_rfl) (by kernel_rfl) (fun _ _ _ h => h) (Or.inl ⟨by rfl, ?_⟩) hHeld ?_; rotate_left; focus (intro wS hSw; (obtain ⟨e0, e1, e2, e3⟩ := hSw.cells); go_simp; try with_reducible rfl; done)) | (refine wpAnyH_take (i := 2) (v := undef) nth2 (by kernel_rfl) (by kernel_rfl) (by kernel_rfl) (fun _ _ _ h => h) (Or.inr ⟨by rfl, rfl⟩) hHeld ?_)
      (try simp only [Act.put]); (try simp only [List.setIfInBounds_toArray]); (try simp only [List.set_cons_succ]); (try simp only [List.set_cons_zero])
      first | (refine wpAnyH_take (i := 3) (v := ?_) nth3 (by kernel_rfl) (by kernel_rfl) (by kernel_rfl) (fun _ _ _ h => h) (Or.inl ⟨by rfl, ?_⟩) hHeld ?_; rotate_left; focus (intro wS hSw; (obtain ⟨e0, e1, e2, e3⟩ := hSw.cells); go_simp; try with_reducible rfl; done)) | (refine wpAnyH_take (i := 3) (v := undef) nth3 (by kernel_rfl) (by kernel_rfl) (by kernel_rfl) (fun _ _ _ h => h) (Or.inr ⟨by rfl, rfl⟩) hHeld ?_)
      (try simp only [Act.put]); (try simp only [List.setIfInBounds_toArray]); (try simp only [List.set_cons_succ]); (try simp only [List.set_cons_zero])
      first | (refine wpAnyH_take (i := 4) (v := ?_) nth4 (by kernel_rfl) (by kernel_rfl) (by kernel_rfl) (fun _ _ _ h => h) (Or.inl ⟨by rfl, ?_⟩) hHeld ?_; rotate_left; focus (intro wS hSw; (obtain ⟨e0, e1, e2, e3⟩ := hSw.cells); go_simp; try with_reducible rfl; done)) | (refine wpAnyH_take (i := 4) (v := undef) nth4 (by kernel_rfl) (by kernel_rfl) (by kernel_rfl) (fun _ _ _ h => h) (Or.inr ⟨by rfl, rfl⟩) hHeld ?_)
      (try simp only [Act.put]); (try simp only [List.setIfInBounds_toArray]); (try simp only [List.set_cons_succ]); (try simp only [List.set_cons_zero])
      first | (refine wpAnyH_take (i := 5) (v := ?_) nth5 (by kernel_rfl) (by kernel_rfl) (by kernel_rfl) (fun _ _ _ h => h) (Or.inl ⟨by rfl, ?_⟩) hHeld ?_; rotate_left; focus (intro wS hSw; (obtain ⟨e0, e1, e2, e3⟩ := hSw.cells); go_simp; try with_reducible rfl; done)) | (refine wpAnyH_take (i := 5) (v := undef) nth5 (by kernel_rfl) (by kernel_rfl) (by kernel_rfl) (fun _ _ _ h => h) (Or.inr ⟨by rfl, rfl⟩) hHeld ?_)
      (try simp only [Act.put]); (try simp only [List.setIfInBounds_toArray]); (try simp only [List.set_cons_succ]); (try simp only [List.set_cons_zero])
      first | (refine wpAnyH_take (i := 6) (v := ?_) nth6 (by kernel_rfl) (by kernel_rfl) (by kernel_rfl) (fun _ _ _ h => h) (Or.inl ⟨by rfl, ?_⟩) hHeld ?_; rotate_left; focus (intro wS hSw; (obtain ⟨e0, e1, e2, e3⟩ := hSw.cells); go_simp; try with_reducible rfl; done)) | (refine wpAnyH_take (i := 6) (v := undef) nth6 (by kernel_rfl) (by kernel_rfl) (by kernel_rfl) (fun _ _ _ h => h) (Or.inr ⟨by rfl, rfl⟩) hHeld ?_)
      (try simp only [Act.put]); (try simp only [List.setIfInBounds_toArray]); (try simp only [List.set_cons_succ]); (try simp only [List.set_cons_zero])
      first | (refine wpAnyH_take (i := 7) (v := ?_) nth7 (by kernel_rfl) (by kernel_rfl) (by kernel_rfl) (fun _ _ _ h => h) (Or.inl ⟨by rfl, ?_⟩) hHeld ?_; rotate_left; focus (intro wS hSw; (obtain ⟨e0, e1, e2, e3⟩ := hSw.cells); go_simp; try with_reducible rfl; done)) | (refine wpAnyH_take (i := 7) (v := undef) nth7 (by kernel_rfl) (by kernel_rfl) (by kernel_rfl) (fun _ _ _ h => h) (Or.inr ⟨by rfl, rfl⟩) hHeld ?_)
      (try simp only [Act.put]); (try simp only [List.setIfInBounds_toArray]); (try simp only [List.set_cons_succ]); (try simp only [List.set_cons_zero])
      first | (refine wpAnyH_take (i := 8) (v := ?_) nth8 (by kernel_rfl) (by kernel_rfl) (by kernel_rfl) (fun _ _ _ h => h) (Or.inl ⟨by rfl, ?_⟩) hHeld ?_; rotate_left; focus (intro wS hSw; (obtain ⟨e0, e1, e2, e3⟩ := hSw.cells); go_simp; try with_reducible rfl; done)) | (refine wpAnyH_take (i := 8) (v := undef) nth8 (by kernel_rfl) (by kernel_rfl) (by kernel_rfl) (fun _ _ _ h => h) (Or.inr ⟨by rfl, rfl⟩) hHeld ?_)
      (try simp only [Act.put]); (try simp only [List.setIfInBounds_toArray]); (try simp only [List.set_cons_succ]); (try simp only [List.set_cons_zero])
      first | (refine wpAnyH_take (i := 11) (v := ?_) nth11 (by kernel_rfl) (by kernel_rfl) (by kernel_rfl) (fun _ _ _ h => h) (Or.inl ⟨by rfl, ?_⟩) hHeld ?_; rotate_left; focus (intro wS hSw; (obtain ⟨e0, e1, e2, e3⟩ := hSw.cells); go_simp; try with_reducible rfl; done)) | (refine wpAnyH_take (i := 11) (v := undef) nth11 (by kernel_rfl) (by kernel_rfl) (by kernel_rfl) (fun _ _ _ h => h) (Or.inr ⟨by rfl, rfl⟩) hHeld ?_)
      (try simp only [Act.put]); (try simp only [List.setIfInBounds_toArray]); (try simp only [List.set_cons_succ]); (try simp only [List.set_cons_zero])
      first | (refine wpAnyH_take (i := 12) (v := ?_) nth12 (by kernel_rfl) (by kernel_rfl) (by kernel_rfl) (fun _ _ _ h => h) (Or.inl ⟨by rfl, ?_⟩) hHeld ?_; rotate_left; focus (intro wS hSw; (obtain ⟨e0, e1, e2, e3⟩ := hSw.cells); go_simp; try with_reducible rfl; done)) | (refine wpAnyH_take (i := 12) (v := undef) nth12 (by kernel_rfl) (by kernel_rfl) (by kernel_rfl) (fun _ _ _ h => h) (Or.inr ⟨by rfl, rfl⟩) hHeld ?_)
      (try simp only [Act.put]); (try simp only [List.setIfInBounds_toArray]); (try simp only [List.set_cons_succ]); (try simp only [List.set_cons_zero])
      refine wpAnyH_ready (rs := [9]) (by kernel_rfl) (by simp) ?_
      refine AllReadyH.cons nth9 (fun K hK => ?_) AllReadyH.nil
      go_simp
      first | (go_at_call 7; refine (QA.out _).mono ?_; rintro e w' ⟨rfl, hb⟩) | (go_at_call 14; with_reducible refine (QQ0.out _).mono ?_; rintro e w' ⟨rfl, hb⟩) | (go_at_call 14; with_reducible refine (QQ1.out _).mono ?_; rintro e w' ⟨rfl, hb⟩) | (go_at_call 10; with_reducible refine (QM0.out _).mono ?_; rintro e w' ⟨rfl, hb⟩) | (go_at_call 10; with_reducible refine (QM3.out _).mono ?_; rintro e w' ⟨rfl, hb⟩) | (go_at_call 10; with_reducible refine (QM4.out _).mono ?_; rintro e w' ⟨rfl, hb⟩)
      refine hK.out _ _ (hHeld.step hb) (fun hHeld => ?_)
      clear hK K
      (try simp only [Act.put]); (try simp only [List.setIfInBounds_toArray]); (try simp only [List.set_cons_succ]); (try simp only [List.set_cons_zero])
      first | (refine wpAnyH_take (i := 10) (v := ?_) nth10 (by kernel_rfl) (by kernel_rfl) (by kernel_rfl) (fun _ _ _ h => h) (Or.inl ⟨by rfl, ?_⟩) hHeld ?_; rotate_left; focus (intro wS hSw; (obtain ⟨e0, e1, e2, e3⟩ := hSw.cells); go_simp; try with_reducible rfl; done)) | (refine wpAnyH_take (i := 10) (v := undef) nth10 (by kernel_rfl) (by kernel_rfl) (by kernel_rfl) (fun _ _ _ h => h) (Or.inr ⟨by rfl, rfl⟩) hHeld ?_)
      (try simp only [Act.put]); (try simp only [List.setIfInBounds_toArray]); (try simp only [List.set_cons_succ]); (try simp only [List.set_cons_zero])
      refine wpAnyH_ready (rs := [13]) (by kernel_rfl) (by simp) ?_
      refine AllReadyH.cons nth13 (fun K hK => ?_) AllReadyH.nil
      go_simp
      first | (go_at_call 7; refine (QA.out _).mono ?_; rintro e w' ⟨rfl, hb⟩) | (go_at_call 14; with_reducible refine (QQ0.out _).mono ?_; rintro e w' ⟨rfl, hb⟩) | (go_at_call 14; with_reducible refine (QQ1.out _).mono ?_; rintro e w' ⟨rfl, hb⟩) | (go_at_call 10; with_reducible refine (QM0.out _).mono ?_; rintro e w' ⟨rfl, hb⟩) | (go_at_call 10; with_reducible refine (QM3.out _).mono ?_; rintro e w' ⟨rfl, hb⟩) | (go_at_call 10; with_reducible refine (QM4.out _).mono ?_; rintro e w' ⟨rfl, hb⟩)
      refine hK.out _ _ (hHeld.step hb) (fun hHeld => ?_)
      clear hK K
      (try simp only [Act.put]); (try simp only [List.setIfInBounds_toArray]); (try simp only [List.set_cons_succ]); (try simp only [List.set_cons_zero])
      first | (refine wpAnyH_take (i := 14) (v := ?_) nth14 (by kernel_rfl) (by kernel_rfl) (by kernel_rfl) (fun _ _ _ h => h) (Or.inl ⟨by rfl, ?_⟩) hHeld ?_; rotate_left; focus (intro wS hSw; (obtain ⟨e0, e1, e2, e3⟩ := hSw.cells); go_simp; try with_reducible rfl; done)) | (refine wpAnyH_take (i := 14) (v := undef) nth14 (by kernel_rfl) (by kernel_rfl) (by kernel_rfl) (fun _ _ _ h => h) (Or.inr ⟨by rfl, rfl⟩) hHeld ?_)
      (try simp only [Act.put]); (try simp only [List.setIfInBounds_toArray]); (try simp only [List.set_cons_succ]); (try simp only [List.set_cons_zero])
      refine wpAnyH_ready (rs := [15]) (by kernel_rfl) (by simp) ?_
      refine AllReadyH.cons nth15 (fun K hK => ?_) AllReadyH.nil
      go_simp
      first | (go_at_call 7; refine (QA.out _).mono ?_; rintro e w' ⟨rfl, hb⟩) | (go_at_call 14; with_reducible refine (QQ0.out _).mono ?_; rintro e w' ⟨rfl, hb⟩) | (go_at_call 14; with_reducible refine (QQ1.out _).mono ?_; rintro e w' ⟨rfl, hb⟩) | (go_at_call 10; with_reducible refine (QM0.out _).mono ?_; rintro e w' ⟨rfl, hb⟩) | (go_at_call 10; with_reducible refine (QM3.out _).mono ?_; rintro e w' ⟨rfl, hb⟩) | (go_at_call 10; with_reducible refine (QM4.out _).mono ?_; rintro e w' ⟨rfl, hb⟩)
      refine hK.out _ _ (hHeld.step hb) (fun hHeld => ?_)
      clear hK K
      (try simp only [Act.put]); (try simp only [List.setIfInBounds_toArray]); (try simp only [List.set_cons_succ]); (try simp only [List.set_cons_zero])
      first | (refine wpAnyH_take (i := 16) (v := ?_) nth16 (by kernel_rfl) (by kernel_rfl) (by kernel_rfl) (fun _ _ _ h => h) (Or.inl ⟨by rfl, ?_⟩) hHeld ?_; rotate_left; focus (intro wS hSw; (obtain ⟨e0, e1, e2, e3⟩ := hSw.cells); go_simp; try with_reducible rfl; done)) | (refine wpAnyH_take (i := 16) (v := undef) nth16 (by kernel_rfl) (by kernel_rfl) (by kernel_rfl) (fun _ _ _ h => h) (Or.inr ⟨by rfl, rfl⟩) hHeld ?_)
      (try simp only [Act.put]); (try simp only [List.setIfInBounds_toArray]); (try simp only [List.set_cons_succ]); (try simp only [List.set_cons_zero])
      first | (refine wpAnyH_take (i := 17) (v := ?_) nth17 (by kernel_rfl) (by kernel_rfl) (by kernel_rfl) (fun _ _ _ h => h) (Or.inl ⟨by rfl, ?_⟩) hHeld ?_; rotate_left; focus (intro wS hSw; (obtain ⟨e0, e1, e2, e3⟩ := hSw.cells); go_simp; try with_reducible rfl; done)) | (refine wpAnyH_take (i := 17) (v := undef) nth17 (by kernel_rfl) (by kernel_rfl) (by kernel_rfl) (fun _ _ _ h => h) (Or.inr ⟨by rfl, rfl⟩) hHeld ?_)
      (try simp only [Act.put]); (try simp only [List.setIfInBounds_toArray]); (try simp only [List.set_cons_succ]); (try simp only [List.set_cons_zero])
      first | (refine wpAnyH_take (i := 18) (v := ?_) nth18 (by kernel_rfl) (by kernel_rfl) (by kernel_rfl) (fun _ _ _ h => h) (Or.inl ⟨by rfl, ?_⟩) hHeld ?_; rotate_left; focus (intro wS hSw; (obtain ⟨e0, e1, e2, e3⟩ := hSw.cells); go_simp; try with_reducible rfl; done)) | (refine wpAnyH_take (i := 18) (v := undef) nth18 (by kernel_rfl) (by kernel_rfl) (by kernel_rfl) (fun _ _ _ h => h) (Or.inr ⟨by rfl, rfl⟩) hHeld ?_)
      (try simp only [Act.put]); (try simp only [List.setIfInBounds_toArray]); (try simp only [List.set_cons_succ]); (try simp only [List.set_cons_zero])
      first | (refine wpAnyH_take (i := 19) (v := ?_) nth19 (by kernel_rfl) (by kernel_rfl) (by kernel_rfl) (fun _ _ _ h => h) (Or.inl ⟨by rfl, ?_⟩) hHeld ?_; rotate_left; focus (intro wS hSw; (obtain ⟨e0, e1, e2, e3⟩ := hSw.cells); go_simp; try with_reducible rfl; done)) | (refine wpAnyH_take (i := 19) (v := undef) nth19 (by kernel_rfl) (by kernel_rfl) (by kernel_rfl) (fun _ _ _ h => h) (Or.inr ⟨by rfl, rfl⟩) hHeld ?_)
      (try simp only [Act.put]); (try simp only [List.setIfInBounds_toArray]); (try simp only [List.set_cons_succ]); (try simp only [List.set_cons_zero])
      first | (refine wpAnyH_take (i := 20) (v := ?_) nth20 (by kernel_rfl) (by kernel_rfl) (by kernel_rfl) (fun _ _ _ h => h) (Or.inl ⟨by rfl, ?_⟩) hHeld ?_; rotate_left; focus (intro wS hSw; (obtain ⟨e0, e1, e2, e3⟩ := hSw.cells); go_simp; try with_reducible rfl; done)) | (refine wpAnyH_take (i := 20) (v := undef) nth20 (by kernel_rfl) (by kernel_rfl) (by kernel_rfl) (fun _ _ _ h => h) (Or.inr ⟨by rfl, rfl⟩) hHeld ?_)
      (try simp only [Act.put]); (try simp only [List.setIfInBounds_toArray]); (try simp only [List.set_cons_succ]); (try simp only [List.set_cons_zero])
      first | (refine wpAnyH_take (i := 21) (v := ?_) nth21 (by kernel_rfl) (by kernel_rfl) (by kernel_rfl) (fun _ _ _ h => h) (Or.inl ⟨by rfl, ?_⟩) hHeld ?_; rotate_left; focus (intro wS hSw; (obtain ⟨e0, e1, e2, e3⟩ := hSw.cells); go_simp; try with_reducible rfl; done)) | (refine wpAnyH_take (i := 21) (v := undef) nth21 (by kernel_rfl) (by kernel_rfl) (by kernel_rfl) (fun _ _ _ h => h) (Or.inr ⟨by rfl, rfl⟩) hHeld ?_)
      (try simp only [Act.put]); (try simp only [List.setIfInBounds_toArray]); (try simp only [List.set_cons_succ]); (try simp only [List.set_cons_zero])
      refine wpAnyH_ready (rs := [22]) (by kernel_rfl) (by simp) ?_
      refine AllReadyH.cons nth22 (fun K hK => ?_) AllReadyH.nil
      go_simp
      first | (go_at_call 7; refine (QA.out _).mono ?_; rintro e w' ⟨rfl, hb⟩) | (go_at_call 14; with_reducible refine (QQ0.out _).mono ?_; rintro e w' ⟨rfl, hb⟩) | (go_at_call 14; with_reducible refine (QQ1.out _).mono ?_; rintro e w' ⟨rfl, hb⟩) | (go_at_call 10; with_reducible refine (QM0.out _).mono ?_; rintro e w' ⟨rfl, hb⟩) | (go_at_call 10; with_reducible refine (QM3.out _).mono ?_; rintro e w' ⟨rfl, hb⟩) | (go_at_call 10; with_reducible refine (QM4.out _).mono ?_; rintro e w' ⟨rfl, hb⟩)
      refine hK.out _ _ (hHeld.step hb) (fun hHeld => ?_)
      clear hK K
      (try simp only [Act.put]); (try simp only [List.setIfInBounds_toArray]); (try simp only [List.set_cons_succ]); (try simp only [List.set_cons_zero])
      first | (refine wpAnyH_take (i := 23) (v := ?_) nth23 (by kernel_rfl) (by kernel_rfl) (by kernel_rfl) (fun _ _ _ h => h) (Or.inl ⟨by rfl, ?_⟩) hHeld ?_; rotate_left; focus (intro wS hSw; (obtain ⟨e0, e1, e2, e3⟩ := hSw.cells); go_simp; try with_reducible rfl; done)) | (refine wpAnyH_take (i := 23) (v := undef) nth23 (by kernel_rfl) (by kernel_rfl) (by kernel_rfl) (fun _ _ _ h => h) (Or.inr ⟨by rfl, rfl⟩) hHeld ?_)
      (try simp only [Act.put]); (try simp only [List.setIfInBounds_toArray]); (try simp only [List.set_cons_succ]); (try simp only [List.set_cons_zero])
      first | (refine wpAnyH_take (i := 24) (v := ?_) nth24 (by kernel_rfl) (by kernel_rfl) (by kernel_rfl) (fun _ _ _ h => h) (Or.inl ⟨by rfl, ?_⟩) hHeld ?_; rotate_left; focus (intro wS hSw; (obtain ⟨e0, e1, e2, e3⟩ := hSw.cells); go_simp; try with_reducible rfl; done)) | (refine wpAnyH_take (i := 24) (v := undef) nth24 (by kernel_rfl) (by kernel_rfl) (by kernel_rfl) (fun _ _ _ h => h) (Or.inr ⟨by rfl, rfl⟩) hHeld ?_)
      (try simp only [Act.put]); (try simp only [List.setIfInBounds_toArray]); (try simp only [List.set_cons_succ]); (try simp only [List.set_cons_zero])
      first | (refine wpAnyH_take (i := 25) (v := ?_) nth25 (by kernel_rfl) (by kernel_rfl) (by kernel_rfl) (fun _ _ _ h => h) (Or.inl ⟨by rfl, ?_⟩) hHeld ?_; rotate_left; focus (intro wS hSw; (obtain ⟨e0, e1, e2, e3⟩ := hSw.cells); go_simp; try with_reducible rfl; done)) | (refine wpAnyH_take (i := 25) (v := undef) nth25 (by kernel_rfl) (by kernel_rfl) (by kernel_rfl) (fun _ _ _ h => h) (Or.inr ⟨by rfl, rfl⟩) hHeld ?_)
      (try simp only [Act.put]); (try simp only [List.setIfInBounds_toArray]); (try simp only [List.set_cons_succ]); (try simp only [List.set_cons_zero])
      first | (refine wpAnyH_take (i := 26) (v := ?_) nth26 (by kernel_rfl) (by kernel_rfl) (by kernel_rfl) (fun _ _ _ h => h) (Or.inl ⟨by rfl, ?_⟩) hHeld ?_; rotate_left; focus (intro wS hSw; (obtain ⟨e0, e1, e2, e3⟩ := hSw.cells); go_simp; try with_reducible rfl; done)) | (refine wpAnyH_take (i := 26) (v := undef) nth26 (by kernel_rfl) (by kernel_rfl) (by kernel_rfl) (fun _ _ _ h => h) (Or.inr ⟨by rfl, rfl⟩) hHeld ?_)
      (try simp only [Act.put]); (try simp only [List.setIfInBounds_toArray]); (try simp only [List.set_cons_succ]); (try simp only [List.set_cons_zero])
      first | (refine wpAnyH_take (i := 27) (v := ?_) nth27 (by kernel_rfl) (by kernel_rfl) (by kernel_rfl) (fun _ _ _ h => h) (Or.inl ⟨by rfl, ?_⟩) hHeld ?_; rotate_left; focus (intro wS hSw; (obtain ⟨e0, e1, e2, e3⟩ := hSw.cells); go_simp; try with_reducible rfl; done)) | (refine wpAnyH_take (i := 27) (v := undef) nth27 (by kernel_rfl) (by kernel_rfl) (by kernel_rfl) (fun _ _ _ h => h) (Or.inr ⟨by rfl, rfl⟩) hHeld ?_)
      (try simp only [Act.put]); (try simp only [List.setIfInBounds_toArray]); (try simp only [List.set_cons_succ]); (try simp only [List.set_cons_zero])
      first | (refine wpAnyH_take (i := 28) (v := ?_) nth28 (by kernel_rfl) (by kernel_rfl) (by kernel_rfl) (fun _ _ _ h => h) (Or.inl ⟨by rfl, ?_⟩) hHeld ?_; rotate_left; focus (intro wS hSw; (obtain ⟨e0, e1, e2, e3⟩ := hSw.cells); go_simp; try with_reducible rfl; done)) | (refine wpAnyH_take (i := 28) (v := undef) nth28 (by kernel_rfl) (by kernel_rfl) (by kernel_rfl) (fun _ _ _ h => h) (Or.inr ⟨by rfl, rfl⟩) hHeld ?_)
      (try simp only [Act.put]); (try simp only [List.setIfInBounds_toArray]); (try simp only [List.set_cons_succ]); (try simp only [List.set_cons_zero])
      first | (refine wpAnyH_take (i := 29) (v := ?_) nth29 (by kernel_rfl) (by kernel_rfl) (by kernel_rfl) (fun _ _ _ h => h) (Or.inl ⟨by rfl, ?_⟩) hHeld ?_; rotate_left; focus (intro wS hSw; (obtain ⟨e0, e1, e2, e3⟩ := hSw.cells); go_simp; try with_reducible rfl; done)) | (refine wpAnyH_take (i := 29) (v := undef) nth29 (by kernel_rfl) (by kernel_rfl) (by kernel_rfl) (fun _ _ _ h => h) (Or.inr ⟨by rfl, rfl⟩) hHeld ?_)
      (try simp only [Act.put]); (try simp only [List.setIfInBounds_toArray]); (try simp only [List.set_cons_succ]); (try simp only [List.set_cons_zero])
      first | (refine wpAnyH_take (i := 30) (v := ?_) nth30 (by kernel_rfl) (by kernel_rfl) (by kernel_rfl) (fun _ _ _ h => h) (Or.inl ⟨by rfl, ?_⟩) hHeld ?_; rotate_left; focus (intro wS hSw; (obtain ⟨e0, e1, e2, e3⟩ := hSw.cells); go_simp; try with_reducible rfl; done)) | (refine wpAnyH_take (i := 30) (v := undef) nth30 (by kernel_rfl) (by kernel_rfl) (by kernel_rfl) (fun _ _ _ h => h) (Or.inr ⟨by rfl, rfl⟩) hHeld ?_)
      (try simp only [Act.put]); (try simp only [List.setIfInBounds_toArray]); (try simp only [List.set_cons_succ]); (try simp only [List.set_cons_zero])
      first | (refine wpAnyH_take (i := 31) (v := ?_) nth31 (by kernel_rfl) (by kernel_rfl) (by kernel_rfl) (fun _ _ _ h => h) (Or.inl ⟨by rfl, ?_⟩) hHeld ?_; rotate_left; focus (intro wS hSw; (obtain ⟨e0, e1, e2, e3⟩ := hSw.cells); go_simp; try with_reducible rfl; done)) | (refine wpAnyH_take (i := 31) (v := undef) nth31 (by kernel_rfl) (by kernel_rfl) (by kernel_rfl) (fun _ _ _ h => h) (Or.inr ⟨by rfl, rfl⟩) hHeld ?_)
      (try simp only [Act.put]); (try simp only [List.setIfInBounds_toArray]); (try simp only [List.set_cons_succ]); (try simp only [List.set_cons_zero])
      first | (refine wpAnyH_take (i := 32) (v := ?_) nth32 (by kernel_rfl) (by kernel_rfl) (by kernel_rfl) (fun _ _ _ h => h) (Or.inl ⟨by rfl, ?_⟩) hHeld ?_; rotate_left; focus (intro wS hSw; (obtain ⟨e0, e1, e2, e3⟩ := hSw.cells); go_simp; try with_reducible rfl; done)) | (refine wpAnyH_take (i := 32) (v := undef) nth32 (by kernel_rfl) (by kernel_rfl) (by kernel_rfl) (fun _ _ _ h => h) (Or.inr ⟨by rfl, rfl⟩) hHeld ?_)
      (try simp only [Act.put]); (try simp only [List.setIfInBounds_toArray]); (try simp only [List.set_cons_succ]); (try simp only [List.set_cons_zero])
      first | (refine wpAnyH_take (i := 33) (v := ?_) nth33 (by kernel_rfl) (by kernel_rfl) (by kernel_rfl) (fun _ _ _ h => h) (Or.inl ⟨by rfl, ?_⟩) hHeld ?_; rotate_left; focus (intro wS hSw; (obtain ⟨e0, e1, e2, e3⟩ := hSw.cells); go_simp; try with_reducible rfl; done)) | (refine wpAnyH_take (i := 33) (v := undef) nth33 (by kernel_rfl) (by kernel_rfl) (by kernel_rfl) (fun _ _ _ h => h) (Or.inr ⟨by rfl, rfl⟩) hHeld ?_)
      (try simp only [Act.put]); (try simp only [List.setIfInBounds_toArray]); (try simp only [List.set_cons_succ]); (try simp only [List.set_cons_zero])
      first | (refine wpAnyH_take (i := 34) (v := ?_) nth34 (by kernel_rfl) (by kernel_rfl) (by kernel_rfl) (fun _ _ _ h => h) (Or.inl ⟨by rfl, ?_⟩) hHeld ?_; rotate_left; focus (intro wS hSw; (obtain ⟨e0, e1, e2, e3⟩ := hSw.cells); go_simp; try with_reducible rfl; done)) | (refine wpAnyH_take (i := 34) (v := undef) nth34 (by kernel_rfl) (by kernel_rfl) (by kernel_rfl) (fun _ _ _ h => h) (Or.inr ⟨by rfl, rfl⟩) hHeld ?_)
      (try simp only [Act.put]); (try simp only [List.setIfInBounds_toArray]); (try simp only [List.set_cons_succ]); (try simp only [List.set_cons_zero])
      first | (refine wpAnyH_take (i := 35) (v := ?_) nth35 (by kernel_rfl) (by kernel_rfl) (by kernel_rfl) (fun _ _ _ h => h) (Or.inl ⟨by rfl, ?_⟩) hHeld ?_; rotate_left; focus (intro wS hSw; (obtain ⟨e0, e1, e2, e3⟩ := hSw.cells); go_simp; try with_reducible rfl; done)) | (refine wpAnyH_take (i := 35) (v := undef) nth35 (by kernel_rfl) (by kernel_rfl) (by kernel_rfl) (fun _ _ _ h => h) (Or.inr ⟨by rfl, rfl⟩) hHeld ?_)
      (try simp only [Act.put]); (try simp only [List.setIfInBounds_toArray]); (try simp only [List.set_cons_succ]); (try simp only [List.set_cons_zero])
      first | (refine wpAnyH_take (i := 36) (v := ?_) nth36 (by kernel_rfl) (by kernel_rfl) (by kernel_rfl) (fun _ _ _ h => h) (Or.inl ⟨by rfl, ?_⟩) hHeld ?_; rotate_left; focus (intro wS hSw; (obtain ⟨e0, e1, e2, e3⟩ := hSw.cells); go_simp; try with_reducible rfl; done)) | (refine wpAnyH_take (i := 36) (v := undef) nth36 (by kernel_rfl) (by kernel_rfl) (by kernel_rfl) (fun _ _ _ h => h) (Or.inr ⟨by rfl, rfl⟩) hHeld ?_)
      (try simp only [Act.put]); (try simp only [List.setIfInBounds_toArray]); (try simp only [List.set_cons_succ]); (try simp only [List.set_cons_zero])
      refine wpAnyH_done (by kernel_rfl) ?_ _
      go_wp2_with fail
      go_ret
      exact ⟨rfl, hHeld.bel⟩
end Go.Proofs.Ytcojhpfnehfppaa
