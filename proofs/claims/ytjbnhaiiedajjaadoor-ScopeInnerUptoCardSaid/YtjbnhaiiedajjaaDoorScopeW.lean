/- The walks of ScopeFinds, ScopeSays, ScopeOut. -/
import Derived.Test.YtjbnhaiiedajjaaDoorScopeO
import Derived.Test.YtjbnhaiiedajjaaDoorNth
namespace Go.Proofs.YtjbnhaiiedajjaaDoor
set_option linter.unusedVariables false
open Go.ChangeShapes Go.WideShapes Go.ChangeAt Go.RowKit Go.Deep

set_option maxHeartbeats 1000000 in
theorem finds_w (A : Option Addr) (N C : Nat) (env : List (List ColV)) (t n : ByteArray) (w : World) (hW : NumW w) (h : EnvAt w w.heap.size A N C env) (hN : N ≤ 1048576) (hn : ∀ cs ∈ env, cs.length ≤ 1048576) :
    Calls Tryd.prog 3 #[.slice A N C, .string t, .string n] w fun e w' => e = .returned (.bool true) ∧ Below w.heap.size w w' := by
  have HW := hide hW
  have HE := hide h
  have HN := hide hn
  clear hW h hn
  generalize hr : findF t n 0 env = r
  have HR := hide hr
  clear hr
  obtain ⟨r1, r2, r3⟩ := r
  go_enter Tryd.func3, Tryd.ntmps3
  go_wp2_with fail
  refine (find_c _ _ _ env _ _ _ HE.out).mono ?_
  rw [HR.out]
  rintro e w1 ⟨rfl, hb⟩
  have HE1 := hide (HE.out.kept hb)
  have HB1 := hide hb
  clear hb
  go_wp2_with fail
  refine (rfind_c _ _ _ env _ _ _ HE1.out hN HN.out).mono ?_
  rw [HR.out]
  rintro e w2 ⟨rfl, hb⟩
  have HB2 := hide (Bel.then HB1.out hb)
  clear hb
  go_wp2_with fail
  refine (awake_c _ (HW.out.keep HB2.out)).mono ?_
  rintro e w3 ⟨rfl, hb⟩
  have HB3 := hide (Bel.then HB2.out hb)
  clear hb
  go_wp2_with fail
  go_ret
  exact ⟨rfl, HB3.out⟩
/-- A block of cells. -/
def BoxIs (b : Nat) (xs : List Value) (w : World) : Prop := ∀ k u, xs[k]? = some u → w.cell? ⟨b, k, none⟩ = some u
theorem box_new (w : World) (cs : Array Value) (t : TypeId) : BoxIs w.heap.size cs.toList (w.alloc (.cells cs t)) := by
  intro k u hu
  rw [cell_of_row _ _ k _ _ _ (heap_alloc_new w _)]
  simpa using hu
def Fine (w : World) (xs : List Value) (w' : World) : Prop := Below w.heap.size w w' ∧ NumW w' ∧ BoxIs w.heap.size xs w'
theorem Fine.step {w a b : World} {xs : List Value} (h : Fine w xs a) (hb : Below a.heap.size a b) : Fine w xs b := ⟨Bel.then h.1 hb, h.2.1.keep hb, fun k u hu => kept hb (h.2.2 k u hu)⟩
theorem Fine.drew {w a : World} {xs : List Value} (h : Fine w xs a) : Fine w xs a.drew := h.step (Below.refl _ _).drew
set_option maxHeartbeats 2000000 in
theorem outs_w (i : ItemV) (a : Int) (w : World) (hW : NumW w) :
    Calls Tryd.prog 5 #[.agg (itemCells i), .int .i64 a] w fun e w' => e = .returned (.bool true) ∧ Below w.heap.size w w' := by
  have q1 := fun W hW => out_c i a W hW
  have q2 := fun W => rout_c i a W
  generalize outP i a = s at *
  obtain ⟨x0, x1, x2, x3, x4, x5, x6, x7, x8, x9, x10, x11⟩ := i
  unfold itemCells at *
  simp only at *
  have hF : Fine w [.bool x0, .string x1, .int .i64 x2, .int .i64 x3, .int .i64 x4, .string x5, .string x6, .string x7, .bool x8, x9, x10, .string x11] (w.alloc (.cells #[.bool x0, .string x1, .int .i64 x2, .int .i64 x3, .int .i64 x4, .string x5, .string x6, .string x7, .bool x8, x9, x10, .string x11] 46)) := ⟨Bel.one _ _, hW.keep (Bel.one _ _), box_new w _ _⟩
  have Q1 := hide q1
  have Q2 := hide q2
  clear hW q1 q2
  go_enter Tryd.func5, Tryd.ntmps5
  go_wp2_with fail
  refine wp_region_held_drew (S := (fun w' => Fine w [.bool x0, .string x1, .int .i64 x2, .int .i64 x3, .int .i64 x4, .string x5, .string x6, .string x7, .bool x8, x9, x10, .string x11] w')) (by kernel_rfl) (hF.drew) (fun hHeld => ?_)
  refine wpAnyH_ready (rs := [0]) (by kernel_rfl) (by simp) ?_
  refine AllReadyH.cons nth0 (fun K hK => ?_) AllReadyH.nil
  go_simp
  first | (go_at_call 9; refine (awake_c _ (‹Fine w _ _›).2.1).mono ?_; rintro e w' ⟨rfl, hb⟩) | (go_at_call 16; refine (Q1.out _ (‹Fine w _ _›).2.1).mono ?_; rintro e w' ⟨rfl, hb⟩) | (go_at_call 17; refine (Q2.out _).mono ?_; rintro e w' ⟨rfl, hb⟩)
  refine hK.out _ _ (Fine.step ‹Fine w _ _› hb) (fun hHeld => ?_)
  clear hK K
  (try simp only [Act.put]); (try simp only [List.setIfInBounds_toArray]); (try simp only [List.set_cons_succ]); (try simp only [List.set_cons_zero])
  first | (refine wpAnyH_take (i := 1) (v := ?_) nth1 (by kernel_rfl) (by kernel_rfl) (by kernel_rfl) (fun _ _ _ h => h) (Or.inl ⟨by rfl, ?_⟩) hHeld ?_; rotate_left; focus (intro wS hSw; (have e0 := hSw.2.2 0 _ rfl; have e1 := hSw.2.2 1 _ rfl; have e2 := hSw.2.2 2 _ rfl; have e3 := hSw.2.2 3 _ rfl; have e4 := hSw.2.2 4 _ rfl; have e5 := hSw.2.2 5 _ rfl; have e6 := hSw.2.2 6 _ rfl; have e7 := hSw.2.2 7 _ rfl; have e8 := hSw.2.2 8 _ rfl; have e9 := hSw.2.2 9 _ rfl; have e10 := hSw.2.2 10 _ rfl; have e11 := hSw.2.2 11 _ rfl); go_simp; try with_reducible rfl; done)) | (refine wpAnyH_take (i := 1) (v := undef) nth1 (by kernel_rfl) (by kernel_rfl) (by kernel_rfl) (fun _ _ _ h => h) (Or.inr ⟨by rfl, rfl⟩) hHeld ?_)
  (try simp only [Act.put]); (try simp only [List.setIfInBounds_toArray]); (try simp only [List.set_cons_succ]); (try simp only [List.set_cons_zero])
  first | (refine wpAnyH_take (i := 2) (v := ?_) nth2 (by kernel_rfl) (by kernel_rfl) (by kernel_rfl) (fun _ _ _ h => h) (Or.inl ⟨by rfl, ?_⟩) hHeld ?_; rotate_left; focus (intro wS hSw; (have e0 := hSw.2.2 0 _ rfl; have e1 := hSw.2.2 1 _ rfl; have e2 := hSw.2.2 2 _ rfl; have e3 := hSw.2.2 3 _ rfl; have e4 := hSw.2.2 4 _ rfl; have e5 := hSw.2.2 5 _ rfl; have e6 := hSw.2.2 6 _ rfl; have e7 := hSw.2.2 7 _ rfl; have e8 := hSw.2.2 8 _ rfl; have e9 := hSw.2.2 9 _ rfl; have e10 := hSw.2.2 10 _ rfl; have e11 := hSw.2.2 11 _ rfl); go_simp; try with_reducible rfl; done)) | (refine wpAnyH_take (i := 2) (v := undef) nth2 (by kernel_rfl) (by kernel_rfl) (by kernel_rfl) (fun _ _ _ h => h) (Or.inr ⟨by rfl, rfl⟩) hHeld ?_)
  (try simp only [Act.put]); (try simp only [List.setIfInBounds_toArray]); (try simp only [List.set_cons_succ]); (try simp only [List.set_cons_zero])
  first | (refine wpAnyH_take (i := 3) (v := ?_) nth3 (by kernel_rfl) (by kernel_rfl) (by kernel_rfl) (fun _ _ _ h => h) (Or.inl ⟨by rfl, ?_⟩) hHeld ?_; rotate_left; focus (intro wS hSw; (have e0 := hSw.2.2 0 _ rfl; have e1 := hSw.2.2 1 _ rfl; have e2 := hSw.2.2 2 _ rfl; have e3 := hSw.2.2 3 _ rfl; have e4 := hSw.2.2 4 _ rfl; have e5 := hSw.2.2 5 _ rfl; have e6 := hSw.2.2 6 _ rfl; have e7 := hSw.2.2 7 _ rfl; have e8 := hSw.2.2 8 _ rfl; have e9 := hSw.2.2 9 _ rfl; have e10 := hSw.2.2 10 _ rfl; have e11 := hSw.2.2 11 _ rfl); go_simp; try with_reducible rfl; done)) | (refine wpAnyH_take (i := 3) (v := undef) nth3 (by kernel_rfl) (by kernel_rfl) (by kernel_rfl) (fun _ _ _ h => h) (Or.inr ⟨by rfl, rfl⟩) hHeld ?_)
  (try simp only [Act.put]); (try simp only [List.setIfInBounds_toArray]); (try simp only [List.set_cons_succ]); (try simp only [List.set_cons_zero])
  first | (refine wpAnyH_take (i := 5) (v := ?_) nth5 (by kernel_rfl) (by kernel_rfl) (by kernel_rfl) (fun _ _ _ h => h) (Or.inl ⟨by rfl, ?_⟩) hHeld ?_; rotate_left; focus (intro wS hSw; (have e0 := hSw.2.2 0 _ rfl; have e1 := hSw.2.2 1 _ rfl; have e2 := hSw.2.2 2 _ rfl; have e3 := hSw.2.2 3 _ rfl; have e4 := hSw.2.2 4 _ rfl; have e5 := hSw.2.2 5 _ rfl; have e6 := hSw.2.2 6 _ rfl; have e7 := hSw.2.2 7 _ rfl; have e8 := hSw.2.2 8 _ rfl; have e9 := hSw.2.2 9 _ rfl; have e10 := hSw.2.2 10 _ rfl; have e11 := hSw.2.2 11 _ rfl); go_simp; try with_reducible rfl; done)) | (refine wpAnyH_take (i := 5) (v := undef) nth5 (by kernel_rfl) (by kernel_rfl) (by kernel_rfl) (fun _ _ _ h => h) (Or.inr ⟨by rfl, rfl⟩) hHeld ?_)
  (try simp only [Act.put]); (try simp only [List.setIfInBounds_toArray]); (try simp only [List.set_cons_succ]); (try simp only [List.set_cons_zero])
  first | (refine wpAnyH_take (i := 6) (v := ?_) nth6 (by kernel_rfl) (by kernel_rfl) (by kernel_rfl) (fun _ _ _ h => h) (Or.inl ⟨by rfl, ?_⟩) hHeld ?_; rotate_left; focus (intro wS hSw; (have e0 := hSw.2.2 0 _ rfl; have e1 := hSw.2.2 1 _ rfl; have e2 := hSw.2.2 2 _ rfl; have e3 := hSw.2.2 3 _ rfl; have e4 := hSw.2.2 4 _ rfl; have e5 := hSw.2.2 5 _ rfl; have e6 := hSw.2.2 6 _ rfl; have e7 := hSw.2.2 7 _ rfl; have e8 := hSw.2.2 8 _ rfl; have e9 := hSw.2.2 9 _ rfl; have e10 := hSw.2.2 10 _ rfl; have e11 := hSw.2.2 11 _ rfl); go_simp; try with_reducible rfl; done)) | (refine wpAnyH_take (i := 6) (v := undef) nth6 (by kernel_rfl) (by kernel_rfl) (by kernel_rfl) (fun _ _ _ h => h) (Or.inr ⟨by rfl, rfl⟩) hHeld ?_)
  (try simp only [Act.put]); (try simp only [List.setIfInBounds_toArray]); (try simp only [List.set_cons_succ]); (try simp only [List.set_cons_zero])
  refine wpAnyH_ready (rs := [4]) (by kernel_rfl) (by simp) ?_
  refine AllReadyH.cons nth4 (fun K hK => ?_) AllReadyH.nil
  go_simp
  first | (go_at_call 9; refine (awake_c _ (‹Fine w _ _›).2.1).mono ?_; rintro e w' ⟨rfl, hb⟩) | (go_at_call 16; refine (Q1.out _ (‹Fine w _ _›).2.1).mono ?_; rintro e w' ⟨rfl, hb⟩) | (go_at_call 17; refine (Q2.out _).mono ?_; rintro e w' ⟨rfl, hb⟩)
  refine hK.out _ _ (Fine.step ‹Fine w _ _› hb) (fun hHeld => ?_)
  clear hK K
  (try simp only [Act.put]); (try simp only [List.setIfInBounds_toArray]); (try simp only [List.set_cons_succ]); (try simp only [List.set_cons_zero])
  refine wpAnyH_ready (rs := [7]) (by kernel_rfl) (by simp) ?_
  refine AllReadyH.cons nth7 (fun K hK => ?_) AllReadyH.nil
  go_simp
  first | (go_at_call 9; refine (awake_c _ (‹Fine w _ _›).2.1).mono ?_; rintro e w' ⟨rfl, hb⟩) | (go_at_call 16; refine (Q1.out _ (‹Fine w _ _›).2.1).mono ?_; rintro e w' ⟨rfl, hb⟩) | (go_at_call 17; refine (Q2.out _).mono ?_; rintro e w' ⟨rfl, hb⟩)
  refine hK.out _ _ (Fine.step ‹Fine w _ _› hb) (fun hHeld => ?_)
  clear hK K
  (try simp only [Act.put]); (try simp only [List.setIfInBounds_toArray]); (try simp only [List.set_cons_succ]); (try simp only [List.set_cons_zero])
  first | (refine wpAnyH_take (i := 8) (v := ?_) nth8 (by kernel_rfl) (by kernel_rfl) (by kernel_rfl) (fun _ _ _ h => h) (Or.inl ⟨by rfl, ?_⟩) hHeld ?_; rotate_left; focus (intro wS hSw; (have e0 := hSw.2.2 0 _ rfl; have e1 := hSw.2.2 1 _ rfl; have e2 := hSw.2.2 2 _ rfl; have e3 := hSw.2.2 3 _ rfl; have e4 := hSw.2.2 4 _ rfl; have e5 := hSw.2.2 5 _ rfl; have e6 := hSw.2.2 6 _ rfl; have e7 := hSw.2.2 7 _ rfl; have e8 := hSw.2.2 8 _ rfl; have e9 := hSw.2.2 9 _ rfl; have e10 := hSw.2.2 10 _ rfl; have e11 := hSw.2.2 11 _ rfl); go_simp; try with_reducible rfl; done)) | (refine wpAnyH_take (i := 8) (v := undef) nth8 (by kernel_rfl) (by kernel_rfl) (by kernel_rfl) (fun _ _ _ h => h) (Or.inr ⟨by rfl, rfl⟩) hHeld ?_)
  (try simp only [Act.put]); (try simp only [List.setIfInBounds_toArray]); (try simp only [List.set_cons_succ]); (try simp only [List.set_cons_zero])
  first | (refine wpAnyH_take (i := 9) (v := ?_) nth9 (by kernel_rfl) (by kernel_rfl) (by kernel_rfl) (fun _ _ _ h => h) (Or.inl ⟨by rfl, ?_⟩) hHeld ?_; rotate_left; focus (intro wS hSw; (have e0 := hSw.2.2 0 _ rfl; have e1 := hSw.2.2 1 _ rfl; have e2 := hSw.2.2 2 _ rfl; have e3 := hSw.2.2 3 _ rfl; have e4 := hSw.2.2 4 _ rfl; have e5 := hSw.2.2 5 _ rfl; have e6 := hSw.2.2 6 _ rfl; have e7 := hSw.2.2 7 _ rfl; have e8 := hSw.2.2 8 _ rfl; have e9 := hSw.2.2 9 _ rfl; have e10 := hSw.2.2 10 _ rfl; have e11 := hSw.2.2 11 _ rfl); go_simp; try with_reducible rfl; done)) | (refine wpAnyH_take (i := 9) (v := undef) nth9 (by kernel_rfl) (by kernel_rfl) (by kernel_rfl) (fun _ _ _ h => h) (Or.inr ⟨by rfl, rfl⟩) hHeld ?_)
  (try simp only [Act.put]); (try simp only [List.setIfInBounds_toArray]); (try simp only [List.set_cons_succ]); (try simp only [List.set_cons_zero])
  first | (refine wpAnyH_take (i := 10) (v := ?_) nth10 (by kernel_rfl) (by kernel_rfl) (by kernel_rfl) (fun _ _ _ h => h) (Or.inl ⟨by rfl, ?_⟩) hHeld ?_; rotate_left; focus (intro wS hSw; (have e0 := hSw.2.2 0 _ rfl; have e1 := hSw.2.2 1 _ rfl; have e2 := hSw.2.2 2 _ rfl; have e3 := hSw.2.2 3 _ rfl; have e4 := hSw.2.2 4 _ rfl; have e5 := hSw.2.2 5 _ rfl; have e6 := hSw.2.2 6 _ rfl; have e7 := hSw.2.2 7 _ rfl; have e8 := hSw.2.2 8 _ rfl; have e9 := hSw.2.2 9 _ rfl; have e10 := hSw.2.2 10 _ rfl; have e11 := hSw.2.2 11 _ rfl); go_simp; try with_reducible rfl; done)) | (refine wpAnyH_take (i := 10) (v := undef) nth10 (by kernel_rfl) (by kernel_rfl) (by kernel_rfl) (fun _ _ _ h => h) (Or.inr ⟨by rfl, rfl⟩) hHeld ?_)
  (try simp only [Act.put]); (try simp only [List.setIfInBounds_toArray]); (try simp only [List.set_cons_succ]); (try simp only [List.set_cons_zero])
  refine wpAnyH_done (by kernel_rfl) ?_ _
  have HF := hide ‹Fine w _ _›
  go_wp2_with fail
  go_ret
  exact ⟨rfl, HF.out.1⟩
set_option maxHeartbeats 1000000 in
theorem says_w (A A2 : Option Addr) (N C N2 C2 : Nat) (cs : List ColV) (l : List OrdV) (t : ByteArray) (w : World) (hW : NumW w) (h : ColsAt w w.heap.size A N C cs) (h2 : OrdsAt w w.heap.size A2 N2 C2 l) (hN : N ≤ 1048576) (hN2 : N2 ≤ 1048576) :
    Calls Tryd.prog 4 #[.slice A N C, .string t, .slice A2 N2 C2] w fun e w' => e = .returned (.bool true) ∧ Below w.heap.size w w' := by
  have hpl := places_len (starB t) cs 0
  have hlen := h.len
  have hlen2 := h2.len
  have HW := hide hW
  have HC := hide h
  have HO := hide h2
  have hbl : ∀ xs ∈ ordL cs l, ∃ (p : Int) (d : Bool), xs = [.int .i64 p, .bool d] := by
    intro xs hx
    unfold ordL at hx
    split at hx
    · obtain ⟨o, _, rfl⟩ := List.mem_map.1 hx
      exact ⟨_, _, rfl⟩
    · simp at hx
  have hbz : (ordL cs l).length ≤ 1048576 := by
    unfold ordL
    split
    · rw [List.length_map]; omega
    · simp
  have HBL := hide hbl
  have HBZ := hide hbz
  have hL : (placesF (starB t) 0 cs).length ≤ 1048576 := by omega
  have HL := hide hL
  clear hW h h2 hbl hbz hlen hlen2 hpl hL
  go_enter Tryd.func4, Tryd.ntmps4
  go_wp2_with fail
  refine (star_c _ _ _ cs _ _ HC.out hN).mono ?_
  rintro e w1 ⟨X, cx, rfl, hX, hcx, hb, _⟩
  have HB1 := hide hb
  have HC1 := hide (HC.out.kept hb)
  have HO1 := hide ((HO.out.below hb).more hb.size)
  have HX1 := hide hX
  clear hb hX
  go_wp2_with fail
  refine (rstar_c _ _ _ cs _ _ HC1.out hN).mono ?_
  rintro e w2 ⟨Y, cy, rfl, hY, hcy, hb, _⟩
  have HB2 := hide (Bel.then HB1.out hb)
  have HC2 := hide (HC1.out.kept hb)
  have HO2 := hide ((HO1.out.below hb).more hb.size)
  have HX2 := hide (HX1.out.kept hb)
  have HY2 := hide hY
  clear hb hY HC1 HO1 HX1 HB1
  go_wp2_with fail
  refine (order_c _ _ _ _ _ _ cs l _ HC2.out HO2.out hN2).mono ?_
  rintro e w3 ⟨U, cu, rfl, hU, hb, _⟩
  have HB3 := hide (Bel.then HB2.out hb)
  have HC3 := hide (HC2.out.kept hb)
  have HO3 := hide ((HO2.out.below hb).more hb.size)
  have HX3 := hide (HX2.out.kept hb)
  have HY3 := hide (HY2.out.kept hb)
  have HU3 := hide hU
  clear hb hU HC2 HO2 HX2 HY2 HB2
  go_wp2_with fail
  refine (rorder_c _ _ _ _ _ _ cs l _ HC3.out HO3.out hN2 hN).mono ?_
  rintro e w4 ⟨V, cv, rfl, hV, hb, _⟩
  have HB4 := hide (Bel.then HB3.out hb)
  have HX4 := hide (HX3.out.kept hb)
  have HY4 := hide (HY3.out.kept hb)
  have HU4 := hide (HU3.out.kept hb)
  have HV4 := hide hV
  clear hb hV HC3 HO3 HX3 HY3 HU3 HB3
  go_wp2_with fail
  refine (awake_c _ (HW.out.keep HB4.out)).mono ?_
  rintro e w5 ⟨rfl, hb⟩
  have HB5 := hide (Bel.then HB4.out hb)
  have HX5 := hide (HX4.out.kept hb)
  have HY5 := hide (HY4.out.kept hb)
  have HU5 := hide (HU4.out.kept hb)
  have HV5 := hide (HV4.out.kept hb)
  clear hb HX4 HY4 HU4 HV4 HB4
  go_wp2_with fail
  refine (ints_c _ _ _ _ _ _ _ HX5.out HY5.out HL.out hcx hcy).mono ?_
  rintro e w6 ⟨rfl, hb⟩
  have HB6 := hide (Bel.then HB5.out hb)
  have HU6 := hide (HU5.out.kept hb)
  have HV6 := hide (HV5.out.kept hb)
  clear hb HX5 HY5 HU5 HV5 HB5
  go_wp2_with fail
  refine (bys_c _ _ _ _ _ _ HBL.out HU6.out HV6.out HBZ.out).mono ?_
  rintro e w7 ⟨rfl, hb⟩
  have HB7 := hide (Bel.then HB6.out hb)
  clear hb
  go_wp2_with fail
  go_ret
  exact ⟨rfl, HB7.out⟩
end Go.Proofs.YtjbnhaiiedajjaaDoor
