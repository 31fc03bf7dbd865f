/- The walk of ValueOrders. -/
import Derived.Test.YtammpddkeinijaaDoorTextsW
import Derived.Test.YtammpddkeinijaaDoorNth
namespace Go.Proofs.YtammpddkeinijaaDoor
set_option linter.unusedVariables false
open Go.ChangeShapes Go.WideShapes Go.ChangeAt Go.RowKit

theorem cmpR_range : ∀ r s : List ValV, -1 ≤ cmpR r s ∧ cmpR r s ≤ 1
  | [], [] => by simp [cmpR]
  | [], _ :: _ => by simp [cmpR]
  | _ :: _, [] => by simp [cmpR]
  | a :: l, b :: m => by
    have h1 := cmpV_range a b
    have h2 := cmpR_range l m
    simp only [cmpR]
    split <;> omega
/-- append to a row of the call's own, as one step of a region that draws. -/
theorem step_app {P : Program} {ops : Array Oper} {o : Oper} {a : Act} {w : World} {K : Act → World → Prop} {Q : Exit → Act → World → Prop} {E : Prop} (hgd : o.guard = none) (s x : Operand) (t : TypeId)
    (ho : o.op = .call { callee := .builtin .append, args := #[s, x], argTypes := #[t, t] })
    (base : Nat) (e : TypeId) (i : TypeInfo) (z : Value) (size bytes : Nat) (ht : P.underlying t = some (.slice e)) (hi : P.info? e = some i) (hz : i.zero = some z)
    (hsize : i.size = size) (hby : i.bytes = bytes) (hzs : z.cells.size = size) (hsz : 0 < size)
    (v : Value) (n : Nat) (xs : List Value) (hs : a.eval s = v) (hown : w.ownsRow base e size v n xs)
    (B : Nat) (A : Option Addr) (m c : Nat) (news : List Value) (hx : a.eval x = .slice A m c) (hl : news.length = m * size) (hr : Cells w B A news) (h1 : ∀ u ∈ news, u.oneCell' = true)
    (h63 : n + m ≤ maxLen) (hbytes : (n + m) * bytes ≤ 140737488355328) (hbase : base ≤ w.heap.size) (hnil : A = none → m = 0)
    (h : ∀ v' w', w'.ownsRow base e size v' (n + m) (xs ++ news) → w.grownBy w' v.ownBlock → (v'.ownBlock = v.ownBlock ∨ v'.ownBlock = some w.heap.size) → K (a.put o.dst v') w') :
    if Region.wanted o (yielded ops a.tmps) = true then Oper.wp P o a w K Q else E := by
  have hw : Region.wanted o (yielded ops a.tmps) = true := by simp [Region.wanted, hgd]
  rw [if_pos hw]
  obtain ⟨v', w', hrun, h2, h3, h4⟩ := run_app (P := P) w base t o.type e i z size bytes ht hi hz hsize hby hzs hsz v n xs hown B A m c news hl hr h1 h63 hbytes hbase hnil
  unfold Oper.wp execOp
  simp only [ho, resolve, invoke, builtin, Sem.run_bind, Sem.run_pure, Result.andThen_ok, List.map_toArray, List.map_cons, List.map_nil, hs, hx, hrun]
  exact h v' w' h2 h3 h4
/-- Two boxes. -/
structure FineL (w : World) (xs ys : List Value) (w' : World) : Prop where
  below : Below w.heap.size w w'
  vw : ValW w'
  ba : BoxIs w.heap.size xs w'
  bb : BoxIs (w.heap.size + 1) ys w'
theorem FineL.step {w x y : World} {xs ys : List Value} (h : FineL w xs ys x) (hb : Below x.heap.size x y) : FineL w xs ys y := ⟨Bel.then h.below hb, h.vw.keep hb, h.ba.step hb, h.bb.step hb⟩
theorem FineL.drew {w x : World} {xs ys : List Value} (h : FineL w xs ys x) : FineL w xs ys x.drew := h.step (Below.refl _ _).drew
theorem fineL_new (w : World) (cs ds : Array Value) (hW : ValW w) (t t2 : TypeId) : FineL w cs.toList ds.toList ((w.alloc (.cells cs t)).alloc (.cells ds t2)) := by
  have h1 := Bel.one w (.cells cs t)
  have h2 := Bel.one (w.alloc (.cells cs t)) (.cells ds t2)
  refine ⟨Bel.then h1 h2, (hW.keep h1).keep h2, (box_new w cs t).step h2, ?_⟩
  have := box_new (w.alloc (.cells cs t)) ds t2
  rwa [World.size_alloc] at this
theorem flat_one {r : List ValV} : ∀ v ∈ (r.map valCells).flatten, v.oneCell' = true := by
  intro v hv
  obtain ⟨xs, hx, hvx⟩ := List.mem_flatten.1 hv
  obtain ⟨a, _, rfl⟩ := List.mem_map.1 hx
  simp [valCells] at hvx
  rcases hvx with rfl | rfl | rfl <;> rfl
set_option maxRecDepth 100000 in
set_option maxHeartbeats 1000000 in
theorem orders_w (A0 A1 A2 : Option Addr) (n0 c0 n1 c1 n2 c2 : Nat) (r s t : List ValV) (vk vn : Int) (vs : ByteArray) (w : World) (hW : ValW w)
    (g0 : RowAt w w.heap.size A0 n0 c0 r) (g1 : RowAt w w.heap.size A1 n1 c1 s) (g2 : RowAt w w.heap.size A2 n2 c2 t) (hn : n0 ≤ 1048576) :
    Calls Tryd.prog 6 #[.agg #[.slice A0 n0 c0, .slice A1 n1 c1, .slice A2 n2 c2], .agg #[.int .i64 vk, .int .i64 vn, .string vs]] w fun e w' => e = .returned (.bool true) ∧ Below w.heap.size w w' := by
  obtain ⟨i0, hi0, hz0, hz1, hz2⟩ := info_parts value_info
  have F0 := hide (fineL_new w #[.slice A0 n0 c0, .slice A1 n1 c1, .slice A2 n2 c2] #[.int .i64 vk, .int .i64 vn, .string vs] hW 40 23)
  have q1 := fun W (hW : Below w.heap.size w W) => orders_c A0 A1 n0 c0 n1 c1 r s W (g0.kept hW) (g1.kept hW)
  have q2 := fun W (hW : Below w.heap.size w W) => orders_c A1 A0 n1 c1 n0 c0 s r W (g1.kept hW) (g0.kept hW)
  have q3 := fun W (hW : Below w.heap.size w W) => orders_c A1 A2 n1 c1 n2 c2 s t W (g1.kept hW) (g2.kept hW)
  have q4 := fun W (hW : Below w.heap.size w W) => orders_c A0 A2 n0 c0 n2 c2 r t W (g0.kept hW) (g2.kept hW)
  have y1 := cmpR_trans r s t
  have y2 := cmpR_neg r s
  have y3 := cmpR_ahead r s ⟨vk, vn, vs⟩
  have y4 := cmpR_range r s
  rw [g0.len, g1.len] at y3
  have G0 := hide g0
  have G1 := hide g1
  have HP : ∃ p, Hid (cmpR (r ++ [⟨vk, vn, vs⟩]) s = p) := ⟨_, rfl⟩
  obtain ⟨p, HP⟩ := HP
  rw [HP.out] at y3
  generalize cmpR r s = o at *
  generalize cmpR s r = o' at *
  generalize cmpR s t = o2 at *
  generalize cmpR r t = o3 at *
  have hng : IntKind.i64.wrap (-o') = o := by
    rw [y2, Int.neg_neg]
    rcases (show o = -1 ∨ o = 0 ∨ o = 1 by omega) with h | h | h <;> rw [h] <;> decide
  have b1 : (o != o) = false := by simp
  have Q1 := hide q1
  have Q2 := hide q2
  have Q3 := hide q3
  have Q4 := hide q4
  have Y1 := hide y1
  have Y3 := hide y3
  clear hW g0 g1 g2 q1 q2 q3 q4 y1 y2 y3 y4
  go_enter Tryd.func6, Tryd.ntmps6
  go_wp2_with fail
  refine wp_region_held_drew (S := (fun w' => FineL w [.slice A0 n0 c0, .slice A1 n1 c1, .slice A2 n2 c2] [.int .i64 vk, .int .i64 vn, .string vs] w')) (by kernel_rfl) (F0.out.drew) (fun hHeld => ?_)
  first | (refine wpAnyH_take (i := 0) (v := ?_) nth0 (by kernel_rfl) (by kernel_rfl) (by kernel_rfl) (fun _ _ _ h => h) (Or.inl ⟨by rfl, ?_⟩) hHeld ?_; rotate_left; focus (intro wS hSw; (have e0 := hSw.ba 0 _ rfl; have e1 := hSw.ba 1 _ rfl; have e2 := hSw.ba 2 _ rfl); go_simp; try with_reducible rfl; done)) | (refine wpAnyH_take (i := 0) (v := undef) nth0 (by kernel_rfl) (by kernel_rfl) (by kernel_rfl) (fun _ _ _ h => h) (Or.inr ⟨by rfl, rfl⟩) hHeld ?_)
  (try simp only [Act.put]); (try simp only [List.setIfInBounds_toArray]); (try simp only [List.set_cons_succ]); (try simp only [List.set_cons_zero])
  first | (refine wpAnyH_take (i := 1) (v := ?_) nth1 (by kernel_rfl) (by kernel_rfl) (by kernel_rfl) (fun _ _ _ h => h) (Or.inl ⟨by rfl, ?_⟩) hHeld ?_; rotate_left; focus (intro wS hSw; (have e0 := hSw.ba 0 _ rfl; have e1 := hSw.ba 1 _ rfl; have e2 := hSw.ba 2 _ rfl); go_simp; try with_reducible rfl; done)) | (refine wpAnyH_take (i := 1) (v := undef) nth1 (by kernel_rfl) (by kernel_rfl) (by kernel_rfl) (fun _ _ _ h => h) (Or.inr ⟨by rfl, rfl⟩) hHeld ?_)
  (try simp only [Act.put]); (try simp only [List.setIfInBounds_toArray]); (try simp only [List.set_cons_succ]); (try simp only [List.set_cons_zero])
  first | (refine wpAnyH_take (i := 2) (v := ?_) nth2 (by kernel_rfl) (by kernel_rfl) (by kernel_rfl) (fun _ _ _ h => h) (Or.inl ⟨by rfl, ?_⟩) hHeld ?_; rotate_left; focus (intro wS hSw; (have e0 := hSw.ba 0 _ rfl; have e1 := hSw.ba 1 _ rfl; have e2 := hSw.ba 2 _ rfl); go_simp; try with_reducible rfl; done)) | (refine wpAnyH_take (i := 2) (v := undef) nth2 (by kernel_rfl) (by kernel_rfl) (by kernel_rfl) (fun _ _ _ h => h) (Or.inr ⟨by rfl, rfl⟩) hHeld ?_)
  (try simp only [Act.put]); (try simp only [List.setIfInBounds_toArray]); (try simp only [List.set_cons_succ]); (try simp only [List.set_cons_zero])
  first | (refine wpAnyH_take (i := 3) (v := ?_) nth3 (by kernel_rfl) (by kernel_rfl) (by kernel_rfl) (fun _ _ _ h => h) (Or.inl ⟨by rfl, ?_⟩) hHeld ?_; rotate_left; focus (intro wS hSw; (have e0 := hSw.ba 0 _ rfl; have e1 := hSw.ba 1 _ rfl; have e2 := hSw.ba 2 _ rfl); go_simp; try with_reducible rfl; done)) | (refine wpAnyH_take (i := 3) (v := undef) nth3 (by kernel_rfl) (by kernel_rfl) (by kernel_rfl) (fun _ _ _ h => h) (Or.inr ⟨by rfl, rfl⟩) hHeld ?_)
  (try simp only [Act.put]); (try simp only [List.setIfInBounds_toArray]); (try simp only [List.set_cons_succ]); (try simp only [List.set_cons_zero])
  first | (refine wpAnyH_take (i := 4) (v := ?_) nth4 (by kernel_rfl) (by kernel_rfl) (by kernel_rfl) (fun _ _ _ h => h) (Or.inl ⟨by rfl, ?_⟩) hHeld ?_; rotate_left; focus (intro wS hSw; (have e0 := hSw.ba 0 _ rfl; have e1 := hSw.ba 1 _ rfl; have e2 := hSw.ba 2 _ rfl); go_simp; try with_reducible rfl; done)) | (refine wpAnyH_take (i := 4) (v := undef) nth4 (by kernel_rfl) (by kernel_rfl) (by kernel_rfl) (fun _ _ _ h => h) (Or.inr ⟨by rfl, rfl⟩) hHeld ?_)
  (try simp only [Act.put]); (try simp only [List.setIfInBounds_toArray]); (try simp only [List.set_cons_succ]); (try simp only [List.set_cons_zero])
  first | (refine wpAnyH_take (i := 5) (v := ?_) nth5 (by kernel_rfl) (by kernel_rfl) (by kernel_rfl) (fun _ _ _ h => h) (Or.inl ⟨by rfl, ?_⟩) hHeld ?_; rotate_left; focus (intro wS hSw; (have e0 := hSw.ba 0 _ rfl; have e1 := hSw.ba 1 _ rfl; have e2 := hSw.ba 2 _ rfl); go_simp; try with_reducible rfl; done)) | (refine wpAnyH_take (i := 5) (v := undef) nth5 (by kernel_rfl) (by kernel_rfl) (by kernel_rfl) (fun _ _ _ h => h) (Or.inr ⟨by rfl, rfl⟩) hHeld ?_)
  (try simp only [Act.put]); (try simp only [List.setIfInBounds_toArray]); (try simp only [List.set_cons_succ]); (try simp only [List.set_cons_zero])
  first | (refine wpAnyH_take (i := 6) (v := ?_) nth6 (by kernel_rfl) (by kernel_rfl) (by kernel_rfl) (fun _ _ _ h => h) (Or.inl ⟨by rfl, ?_⟩) hHeld ?_; rotate_left; focus (intro wS hSw; (have e0 := hSw.ba 0 _ rfl; have e1 := hSw.ba 1 _ rfl; have e2 := hSw.ba 2 _ rfl); go_simp; try with_reducible rfl; done)) | (refine wpAnyH_take (i := 6) (v := undef) nth6 (by kernel_rfl) (by kernel_rfl) (by kernel_rfl) (fun _ _ _ h => h) (Or.inr ⟨by rfl, rfl⟩) hHeld ?_)
  (try simp only [Act.put]); (try simp only [List.setIfInBounds_toArray]); (try simp only [List.set_cons_succ]); (try simp only [List.set_cons_zero])
  first | (refine wpAnyH_take (i := 7) (v := ?_) nth7 (by kernel_rfl) (by kernel_rfl) (by kernel_rfl) (fun _ _ _ h => h) (Or.inl ⟨by rfl, ?_⟩) hHeld ?_; rotate_left; focus (intro wS hSw; (have e0 := hSw.ba 0 _ rfl; have e1 := hSw.ba 1 _ rfl; have e2 := hSw.ba 2 _ rfl); go_simp; try with_reducible rfl; done)) | (refine wpAnyH_take (i := 7) (v := undef) nth7 (by kernel_rfl) (by kernel_rfl) (by kernel_rfl) (fun _ _ _ h => h) (Or.inr ⟨by rfl, rfl⟩) hHeld ?_)
  (try simp only [Act.put]); (try simp only [List.setIfInBounds_toArray]); (try simp only [List.set_cons_succ]); (try simp only [List.set_cons_zero])
  first | (refine wpAnyH_take (i := 8) (v := ?_) nth8 (by kernel_rfl) (by kernel_rfl) (by kernel_rfl) (fun _ _ _ h => h) (Or.inl ⟨by rfl, ?_⟩) hHeld ?_; rotate_left; focus (intro wS hSw; (have e0 := hSw.ba 0 _ rfl; have e1 := hSw.ba 1 _ rfl; have e2 := hSw.ba 2 _ rfl); go_simp; try with_reducible rfl; done)) | (refine wpAnyH_take (i := 8) (v := undef) nth8 (by kernel_rfl) (by kernel_rfl) (by kernel_rfl) (fun _ _ _ h => h) (Or.inr ⟨by rfl, rfl⟩) hHeld ?_)
  (try simp only [Act.put]); (try simp only [List.setIfInBounds_toArray]); (try simp only [List.set_cons_succ]); (try simp only [List.set_cons_zero])
  refine wpAnyH_done (by kernel_rfl) ?_ _
  have F := hide hHeld
  clear hHeld F0
  rcases (show (0 < o) ∨ (o ≤ 0 ∧ 0 < o2) ∨ (o ≤ 0 ∧ o2 ≤ 0 ∧ o3 ≤ 0) by
    by_cases h1 : o ≤ 0
    · by_cases h2 : o2 ≤ 0
      · exact .inr (.inr ⟨h1, h2, Y1.out h1 h2⟩)
      · exact .inr (.inl ⟨h1, by omega⟩)
    · exact .inl (by omega)) with h1 | ⟨h1, h2⟩ | ⟨h1, h2, h3⟩
  all_goals
    clear Y1
    go_wp2_with (first | (go_at_call 12; refine (awake_c _ F.out.vw).mono ?_; rintro ee w' ⟨rfl, hb⟩; replace F := hide (F.out.step hb); clear hb) | (go_at_call 27; (first | with_reducible refine (Q1.out _ F.out.below).mono ?_ | with_reducible refine (Q2.out _ F.out.below).mono ?_ | with_reducible refine (Q3.out _ F.out.below).mono ?_ | with_reducible refine (Q4.out _ F.out.below).mono ?_); rintro ee w' ⟨rfl, hb⟩; replace F := hide (F.out.step hb); clear hb))
    refine wp_region_held_drew (S := (fun w' => FineL w [.slice A0 n0 c0, .slice A1 n1 c1, .slice A2 n2 c2] [.int .i64 vk, .int .i64 vn, .string vs] w')) (by kernel_rfl) (F.out.drew) (fun hHeld => ?_)
    first | (refine wpAnyH_take (i := 1) (v := ?_) nth1 (by kernel_rfl) (by kernel_rfl) (by kernel_rfl) (fun _ _ _ h => h) (Or.inl ⟨by rfl, ?_⟩) hHeld ?_; rotate_left; focus (intro wS hSw; have v0 := hSw.bb 0 _ rfl; have v1 := hSw.bb 1 _ rfl; have v2 := hSw.bb 2 _ rfl; go_simp; try with_reducible rfl; done)) | fail
    (try simp only [Act.put]); (try simp only [List.setIfInBounds_toArray]); (try simp only [List.set_cons_succ]); (try simp only [List.set_cons_zero])
    first | (refine wpAnyH_take (i := 3) (v := ?_) nth3 (by kernel_rfl) (by kernel_rfl) (by kernel_rfl) (fun _ _ _ h => h) (Or.inl ⟨by rfl, ?_⟩) hHeld ?_; rotate_left; focus (intro wS hSw; have v0 := hSw.bb 0 _ rfl; have v1 := hSw.bb 1 _ rfl; have v2 := hSw.bb 2 _ rfl; go_simp; try with_reducible rfl; done)) | fail
    (try simp only [Act.put]); (try simp only [List.setIfInBounds_toArray]); (try simp only [List.set_cons_succ]); (try simp only [List.set_cons_zero])
    have FD := hide hHeld
    have HB := hide (Below.refl w'.drew.heap.size w'.drew)
    refine wpAnyH_ready (rs := [0, 4]) (by kernel_rfl) (by simp) ?_
    refine AllReadyH.cons nth0 (fun K hK => ?_) (AllReadyH.cons nth4 (fun K hK => ?_) AllReadyH.nil)
    · go_simp
      have HO := hide (World.ownsRow_lit (base := w.heap.size) (e := 23) (size := 3) w'.drew #[] 0 FD.out.below.size (by simp [maxLen]) rfl)
      replace HB := hide (Bel.one w'.drew (.cells #[] 23))
      refine hK.out _ _ (hHeld.step (Bel.one _ _)) (fun hHeld => ?_)
      clear hK K
      (try simp only [Act.put]); (try simp only [List.setIfInBounds_toArray]); (try simp only [List.set_cons_succ]); (try simp only [List.set_cons_zero])
      refine wpAnyH_ready (rs := [2, 4]) (by kernel_rfl) (by simp) ?_
      refine AllReadyH.cons nth2 (fun K hK => ?_) (AllReadyH.cons nth4 (fun K hK => ?_) AllReadyH.nil)
      · refine step_app rfl (.tmp 43) (.tmp 44) 35 rfl w.heap.size 23 i0 _ 3 32 Tryd.underlying35 hi0 hz0 hz1 hz2 rfl (by omega) _ 0 [] rfl HO.out _ A0 n0 c0 (r.map valCells).flatten rfl (by rw [flat_len _ 3 (G0.out.recs.1), List.length_map, G0.out.len]) (G0.out.kept hHeld.below).recs.2 flat_one (by unfold maxLen; omega) (by omega) hHeld.below.size G0.out.nil ?_
        intro v1 w1 hown hg hat
        simp only [Nat.zero_add, List.nil_append] at hown
        have HV := hide (own_next (B := w'.drew.heap.size) hat (own_new _ _ _ _ (Nat.le_refl _)) HB.out.size)
        replace HB := hide (HB.out.grown hg HB.out.size (own_new _ _ _ _ (Nat.le_refl _)))
        replace HO := hide hown
        clear hown hg hat
        refine hK.out _ _ (FD.out.step HB.out) (fun hHeld => ?_)
        clear hK K
        (try simp only [Act.put]); (try simp only [List.setIfInBounds_toArray]); (try simp only [List.set_cons_succ]); (try simp only [List.set_cons_zero])
        refine wpAnyH_ready (rs := [4]) (by kernel_rfl) (by simp) ?_
        refine AllReadyH.cons nth4 (fun K hK => ?_) AllReadyH.nil
        go_simp
        have HL := hide (cells_lit w1 #[.int .i64 vk, .int .i64 vn, .string vs] 23)
        replace HO := hide (own_below HO.out (Bel.one w1 (.cells #[.int .i64 vk, .int .i64 vn, .string vs] 23)))
        replace HB := hide (HB.out.alloc HB.out.size (.cells #[.int .i64 vk, .int .i64 vn, .string vs] 23))
        refine hK.out _ _ (hHeld.step (Bel.one _ _)) (fun hHeld => ?_)
        clear hK K
        (try simp only [Act.put]); (try simp only [List.setIfInBounds_toArray]); (try simp only [List.set_cons_succ]); (try simp only [List.set_cons_zero])
        refine wpAnyH_ready (rs := [5]) (by kernel_rfl) (by simp) ?_
        refine AllReadyH.cons nth5 (fun K hK => ?_) AllReadyH.nil
        refine step_app rfl (.tmp 45) (.tmp 47) 35 rfl w.heap.size 23 i0 _ 3 32 Tryd.underlying35 hi0 hz0 hz1 hz2 rfl (by omega) v1 n0 (r.map valCells).flatten rfl HO.out _ _ 1 1 [.int .i64 vk, .int .i64 vn, .string vs] rfl rfl HL.out (by simp [Value.oneCell']) (by unfold maxLen; omega) (by omega) hHeld.below.size (by simp) ?_
        intro v2 w2 hown hg hat
        replace HB := hide (HB.out.grown hg HB.out.size HV.out)
        obtain ⟨X, cx, rfl, hM⟩ := sl_of_own (l := r ++ [(⟨vk, vn, vs⟩ : ValV)]) (f := valCells) (by rw [List.length_append, G0.out.len]; simpa [valCells] using hown) valCells_len
        rw [List.length_append, G0.out.len] at hM
        simp only [List.length_append, G0.out.len, List.length_cons, List.length_nil, Nat.zero_add] at hM ⊢
        have HM := hide hM
        clear hown hg hat hM HO HL HV
        refine hK.out _ _ (FD.out.step HB.out) (fun hHeld => ?_)
        clear hK K
        (try simp only [Act.put]); (try simp only [List.setIfInBounds_toArray]); (try simp only [List.set_cons_succ]); (try simp only [List.set_cons_zero])
        first | (refine wpAnyH_take (i := 6) (v := ?_) nth6 (by kernel_rfl) (by kernel_rfl) (by kernel_rfl) (fun _ _ _ h => h) (Or.inl ⟨by rfl, ?_⟩) hHeld ?_; rotate_left; focus (intro wS hSw; have v0 := hSw.bb 0 _ rfl; have v1 := hSw.bb 1 _ rfl; have v2 := hSw.bb 2 _ rfl; go_simp; try with_reducible rfl; done)) | fail
        (try simp only [Act.put]); (try simp only [List.setIfInBounds_toArray]); (try simp only [List.set_cons_succ]); (try simp only [List.set_cons_zero])
        refine wpAnyH_done (by kernel_rfl) ?_ _
        have F2 := hide hHeld
        clear hHeld FD
        have M1 := hide (fun (W : World) (hW : Below w2.heap.size w2 W) => orders_c A0 X n0 c0 (n0 + 1) cx r (r ++ [⟨vk, vn, vs⟩]) W (G0.out.kept (Bel.then F2.out.below hW)) (HM.out.kept hW))
        have M2 := hide (fun (W : World) (hW : Below w2.heap.size w2 W) => orders_c X A1 (n0 + 1) cx n1 c1 (r ++ [⟨vk, vn, vs⟩]) s W (HM.out.kept hW) (G1.out.kept (Bel.then F2.out.below hW)))
        have M3 := hide (fun (W : World) (hW : Below w2.heap.size w2 W) => Q1.out W (Bel.then F2.out.below hW))
        simp only [cmpR_more, HP.out] at M1 M2
        have G := hide (Below.refl w2.heap.size w2)
        rcases (show (0 ≤ o) ∨ (o < 0 ∧ p ≤ 0) ∨ (o < 0 ∧ 0 < p ∧ n0 < n1) by
          by_cases k1 : o < 0
          · by_cases k2 : p ≤ 0
            · exact .inr (.inl ⟨k1, k2⟩)
            · exact .inr (.inr ⟨k1, by omega, by
                by_cases k3 : n1 ≤ n0
                · exact absurd (Y3.out k1 k3) k2
                · omega⟩)
          · exact .inl (by omega)) with k1 | ⟨k1, k2⟩ | ⟨k1, k2, k3⟩
        all_goals
          clear Y3 HM
          go_wp2_with (first | (go_at_call 27; (first | with_reducible refine (M1.out _ G.out).mono ?_ | with_reducible refine (M2.out _ G.out).mono ?_ | with_reducible refine (M3.out _ G.out).mono ?_); rintro ee w' ⟨rfl, hb⟩; replace G := hide (Bel.then G.out hb); clear hb))
          go_ret
          exact ⟨rfl, Bel.then F2.out.below G.out⟩
      · go_simp
        have HW : Hid (World.ownsRow ((w'.drew.alloc (.cells #[] 23)).alloc (.cells #[.int .i64 vk, .int .i64 vn, .string vs] 23)) w.heap.size 23 3 (.slice (some ⟨w'.heap.size + 1, 0, none⟩) 1 1) 1 [.int .i64 vk, .int .i64 vn, .string vs]) := by
          have h := World.ownsRow_lit (base := w.heap.size) (e := 23) (size := 3) (w'.drew.alloc (.cells #[] 23)) #[.int .i64 vk, .int .i64 vn, .string vs] 1 hHeld.below.size (by simp [maxLen]) rfl
          rw [World.size_alloc] at h
          exact h
        replace HO := hide (own_below HO.out (Bel.one (w'.drew.alloc (.cells #[] 23)) (.cells #[.int .i64 vk, .int .i64 vn, .string vs] 23)))
        replace HB := hide (HB.out.alloc HB.out.size (.cells #[.int .i64 vk, .int .i64 vn, .string vs] 23))
        refine hK.out _ _ (hHeld.step (Bel.one _ _)) (fun hHeld => ?_)
        clear hK K
        (try simp only [Act.put]); (try simp only [List.setIfInBounds_toArray]); (try simp only [List.set_cons_succ]); (try simp only [List.set_cons_zero])
        refine wpAnyH_ready (rs := [2]) (by kernel_rfl) (by simp) ?_
        refine AllReadyH.cons nth2 (fun K hK => ?_) AllReadyH.nil
        refine step_app rfl (.tmp 43) (.tmp 44) 35 rfl w.heap.size 23 i0 _ 3 32 Tryd.underlying35 hi0 hz0 hz1 hz2 rfl (by omega) _ 0 [] rfl HO.out _ A0 n0 c0 (r.map valCells).flatten rfl (by rw [flat_len _ 3 (G0.out.recs.1), List.length_map, G0.out.len]) (G0.out.kept hHeld.below).recs.2 flat_one (by unfold maxLen; omega) (by omega) hHeld.below.size G0.out.nil ?_
        intro v1 w1 hown hg hat
        simp only [Nat.zero_add, List.nil_append] at hown
        have HV := hide (own_next (B := w'.drew.heap.size) hat (own_new _ _ _ _ (Nat.le_refl _)) HB.out.size)
        have HL := hide (Cells.of_own (own_other HW.out (.inr (fun h => by injection h with h; have h2 : w'.heap.size = w'.heap.size + 1 := h; omega)) hg hat).1)
        clear HW
        replace HB := hide (HB.out.grown hg HB.out.size (own_new _ _ _ _ (Nat.le_refl _)))
        replace HO := hide hown
        clear hown hg hat
        refine hK.out _ _ (FD.out.step HB.out) (fun hHeld => ?_)
        clear hK K
        (try simp only [Act.put]); (try simp only [List.setIfInBounds_toArray]); (try simp only [List.set_cons_succ]); (try simp only [List.set_cons_zero])
        refine wpAnyH_ready (rs := [5]) (by kernel_rfl) (by simp) ?_
        refine AllReadyH.cons nth5 (fun K hK => ?_) AllReadyH.nil
        refine step_app rfl (.tmp 45) (.tmp 47) 35 rfl w.heap.size 23 i0 _ 3 32 Tryd.underlying35 hi0 hz0 hz1 hz2 rfl (by omega) v1 n0 (r.map valCells).flatten rfl HO.out _ _ 1 1 [.int .i64 vk, .int .i64 vn, .string vs] rfl rfl HL.out (by simp [Value.oneCell']) (by unfold maxLen; omega) (by omega) hHeld.below.size (by simp) ?_
        intro v2 w2 hown hg hat
        replace HB := hide (HB.out.grown hg HB.out.size HV.out)
        obtain ⟨X, cx, rfl, hM⟩ := sl_of_own (l := r ++ [(⟨vk, vn, vs⟩ : ValV)]) (f := valCells) (by rw [List.length_append, G0.out.len]; simpa [valCells] using hown) valCells_len
        rw [List.length_append, G0.out.len] at hM
        simp only [List.length_append, G0.out.len, List.length_cons, List.length_nil, Nat.zero_add] at hM ⊢
        have HM := hide hM
        clear hown hg hat hM HO HL HV
        refine hK.out _ _ (FD.out.step HB.out) (fun hHeld => ?_)
        clear hK K
        (try simp only [Act.put]); (try simp only [List.setIfInBounds_toArray]); (try simp only [List.set_cons_succ]); (try simp only [List.set_cons_zero])
        first | (refine wpAnyH_take (i := 6) (v := ?_) nth6 (by kernel_rfl) (by kernel_rfl) (by kernel_rfl) (fun _ _ _ h => h) (Or.inl ⟨by rfl, ?_⟩) hHeld ?_; rotate_left; focus (intro wS hSw; have v0 := hSw.bb 0 _ rfl; have v1 := hSw.bb 1 _ rfl; have v2 := hSw.bb 2 _ rfl; go_simp; try with_reducible rfl; done)) | fail
        (try simp only [Act.put]); (try simp only [List.setIfInBounds_toArray]); (try simp only [List.set_cons_succ]); (try simp only [List.set_cons_zero])
        refine wpAnyH_done (by kernel_rfl) ?_ _
        have F2 := hide hHeld
        clear hHeld FD
        have M1 := hide (fun (W : World) (hW : Below w2.heap.size w2 W) => orders_c A0 X n0 c0 (n0 + 1) cx r (r ++ [⟨vk, vn, vs⟩]) W (G0.out.kept (Bel.then F2.out.below hW)) (HM.out.kept hW))
        have M2 := hide (fun (W : World) (hW : Below w2.heap.size w2 W) => orders_c X A1 (n0 + 1) cx n1 c1 (r ++ [⟨vk, vn, vs⟩]) s W (HM.out.kept hW) (G1.out.kept (Bel.then F2.out.below hW)))
        have M3 := hide (fun (W : World) (hW : Below w2.heap.size w2 W) => Q1.out W (Bel.then F2.out.below hW))
        simp only [cmpR_more, HP.out] at M1 M2
        have G := hide (Below.refl w2.heap.size w2)
        rcases (show (0 ≤ o) ∨ (o < 0 ∧ p ≤ 0) ∨ (o < 0 ∧ 0 < p ∧ n0 < n1) by
          by_cases k1 : o < 0
          · by_cases k2 : p ≤ 0
            · exact .inr (.inl ⟨k1, k2⟩)
            · exact .inr (.inr ⟨k1, by omega, by
                by_cases k3 : n1 ≤ n0
                · exact absurd (Y3.out k1 k3) k2
                · omega⟩)
          · exact .inl (by omega)) with k1 | ⟨k1, k2⟩ | ⟨k1, k2, k3⟩
        all_goals
          clear Y3 HM
          go_wp2_with (first | (go_at_call 27; (first | with_reducible refine (M1.out _ G.out).mono ?_ | with_reducible refine (M2.out _ G.out).mono ?_ | with_reducible refine (M3.out _ G.out).mono ?_); rintro ee w' ⟨rfl, hb⟩; replace G := hide (Bel.then G.out hb); clear hb))
          go_ret
          exact ⟨rfl, Bel.then F2.out.below G.out⟩
    · go_simp
      have HW0 := hide (World.ownsRow_lit (base := w.heap.size) (e := 23) (size := 3) w'.drew #[.int .i64 vk, .int .i64 vn, .string vs] 1 hHeld.below.size (by simp [maxLen]) rfl)
      replace HB := hide (Bel.one w'.drew (.cells #[.int .i64 vk, .int .i64 vn, .string vs] 23))
      refine hK.out _ _ (hHeld.step (Bel.one _ _)) (fun hHeld => ?_)
      clear hK K
      (try simp only [Act.put]); (try simp only [List.setIfInBounds_toArray]); (try simp only [List.set_cons_succ]); (try simp only [List.set_cons_zero])
      refine wpAnyH_ready (rs := [0]) (by kernel_rfl) (by simp) ?_
      refine AllReadyH.cons nth0 (fun K hK => ?_) AllReadyH.nil
      go_simp
      have HO : Hid (World.ownsRow ((w'.drew.alloc (.cells #[.int .i64 vk, .int .i64 vn, .string vs] 23)).alloc (.cells #[] 23)) w.heap.size 23 3 (.slice (some ⟨w'.heap.size + 1, 0, none⟩) 0 0) 0 []) := by
        have h := World.ownsRow_lit (base := w.heap.size) (e := 23) (size := 3) (w'.drew.alloc (.cells #[.int .i64 vk, .int .i64 vn, .string vs] 23)) #[] 0 hHeld.below.size (by simp [maxLen]) rfl
        rw [World.size_alloc] at h
        exact h
      have HW : Hid (World.ownsRow ((w'.drew.alloc (.cells #[.int .i64 vk, .int .i64 vn, .string vs] 23)).alloc (.cells #[] 23)) w.heap.size 23 3 (.slice (some ⟨w'.heap.size, 0, none⟩) 1 1) 1 [.int .i64 vk, .int .i64 vn, .string vs]) := own_below HW0.out (Bel.one _ _)
      clear HW0
      replace HB := hide (HB.out.alloc HB.out.size (.cells #[] 23))
      refine hK.out _ _ (hHeld.step (Bel.one _ _)) (fun hHeld => ?_)
      clear hK K
      (try simp only [Act.put]); (try simp only [List.setIfInBounds_toArray]); (try simp only [List.set_cons_succ]); (try simp only [List.set_cons_zero])
      refine wpAnyH_ready (rs := [2]) (by kernel_rfl) (by simp) ?_
      refine AllReadyH.cons nth2 (fun K hK => ?_) AllReadyH.nil
      refine step_app rfl (.tmp 43) (.tmp 44) 35 rfl w.heap.size 23 i0 _ 3 32 Tryd.underlying35 hi0 hz0 hz1 hz2 rfl (by omega) _ 0 [] rfl HO.out _ A0 n0 c0 (r.map valCells).flatten rfl (by rw [flat_len _ 3 (G0.out.recs.1), List.length_map, G0.out.len]) (G0.out.kept hHeld.below).recs.2 flat_one (by unfold maxLen; omega) (by omega) hHeld.below.size G0.out.nil ?_
      intro v1 w1 hown hg hat
      simp only [Nat.zero_add, List.nil_append] at hown
      have HV := hide (own_next (B := w'.drew.heap.size) hat (own_new _ _ _ _ (Nat.le_succ _)) HB.out.size)
      have HL := hide (Cells.of_own (own_other HW.out (.inr (fun h => by injection h with h; have h2 : w'.heap.size + 1 = w'.heap.size := h; omega)) hg hat).1)
      clear HW
      replace HB := hide (HB.out.grown hg HB.out.size (own_new _ _ _ _ (Nat.le_succ _)))
      replace HO := hide hown
      clear hown hg hat
      refine hK.out _ _ (FD.out.step HB.out) (fun hHeld => ?_)
      clear hK K
      (try simp only [Act.put]); (try simp only [List.setIfInBounds_toArray]); (try simp only [List.set_cons_succ]); (try simp only [List.set_cons_zero])
      refine wpAnyH_ready (rs := [5]) (by kernel_rfl) (by simp) ?_
      refine AllReadyH.cons nth5 (fun K hK => ?_) AllReadyH.nil
      refine step_app rfl (.tmp 45) (.tmp 47) 35 rfl w.heap.size 23 i0 _ 3 32 Tryd.underlying35 hi0 hz0 hz1 hz2 rfl (by omega) v1 n0 (r.map valCells).flatten rfl HO.out _ _ 1 1 [.int .i64 vk, .int .i64 vn, .string vs] rfl rfl HL.out (by simp [Value.oneCell']) (by unfold maxLen; omega) (by omega) hHeld.below.size (by simp) ?_
      intro v2 w2 hown hg hat
      replace HB := hide (HB.out.grown hg HB.out.size HV.out)
      obtain ⟨X, cx, rfl, hM⟩ := sl_of_own (l := r ++ [(⟨vk, vn, vs⟩ : ValV)]) (f := valCells) (by rw [List.length_append, G0.out.len]; simpa [valCells] using hown) valCells_len
      rw [List.length_append, G0.out.len] at hM
      simp only [List.length_append, G0.out.len, List.length_cons, List.length_nil, Nat.zero_add] at hM ⊢
      have HM := hide hM
      clear hown hg hat hM HO HL HV
      refine hK.out _ _ (FD.out.step HB.out) (fun hHeld => ?_)
      clear hK K
      (try simp only [Act.put]); (try simp only [List.setIfInBounds_toArray]); (try simp only [List.set_cons_succ]); (try simp only [List.set_cons_zero])
      first | (refine wpAnyH_take (i := 6) (v := ?_) nth6 (by kernel_rfl) (by kernel_rfl) (by kernel_rfl) (fun _ _ _ h => h) (Or.inl ⟨by rfl, ?_⟩) hHeld ?_; rotate_left; focus (intro wS hSw; have v0 := hSw.bb 0 _ rfl; have v1 := hSw.bb 1 _ rfl; have v2 := hSw.bb 2 _ rfl; go_simp; try with_reducible rfl; done)) | fail
      (try simp only [Act.put]); (try simp only [List.setIfInBounds_toArray]); (try simp only [List.set_cons_succ]); (try simp only [List.set_cons_zero])
      refine wpAnyH_done (by kernel_rfl) ?_ _
      have F2 := hide hHeld
      clear hHeld FD
      have M1 := hide (fun (W : World) (hW : Below w2.heap.size w2 W) => orders_c A0 X n0 c0 (n0 + 1) cx r (r ++ [⟨vk, vn, vs⟩]) W (G0.out.kept (Bel.then F2.out.below hW)) (HM.out.kept hW))
      have M2 := hide (fun (W : World) (hW : Below w2.heap.size w2 W) => orders_c X A1 (n0 + 1) cx n1 c1 (r ++ [⟨vk, vn, vs⟩]) s W (HM.out.kept hW) (G1.out.kept (Bel.then F2.out.below hW)))
      have M3 := hide (fun (W : World) (hW : Below w2.heap.size w2 W) => Q1.out W (Bel.then F2.out.below hW))
      simp only [cmpR_more, HP.out] at M1 M2
      have G := hide (Below.refl w2.heap.size w2)
      rcases (show (0 ≤ o) ∨ (o < 0 ∧ p ≤ 0) ∨ (o < 0 ∧ 0 < p ∧ n0 < n1) by
        by_cases k1 : o < 0
        · by_cases k2 : p ≤ 0
          · exact .inr (.inl ⟨k1, k2⟩)
          · exact .inr (.inr ⟨k1, by omega, by
              by_cases k3 : n1 ≤ n0
              · exact absurd (Y3.out k1 k3) k2
              · omega⟩)
        · exact .inl (by omega)) with k1 | ⟨k1, k2⟩ | ⟨k1, k2, k3⟩
      all_goals
        clear Y3 HM
        go_wp2_with (first | (go_at_call 27; (first | with_reducible refine (M1.out _ G.out).mono ?_ | with_reducible refine (M2.out _ G.out).mono ?_ | with_reducible refine (M3.out _ G.out).mono ?_); rintro ee w' ⟨rfl, hb⟩; replace G := hide (Bel.then G.out hb); clear hb))
        go_ret
        exact ⟨rfl, Bel.then F2.out.below G.out⟩
end Go.Proofs.YtammpddkeinijaaDoor
