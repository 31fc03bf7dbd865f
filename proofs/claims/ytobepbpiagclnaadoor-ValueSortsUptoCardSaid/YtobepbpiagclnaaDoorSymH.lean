/- The contracts of value.Sorted and value.Bag at any lists of rows. -/
import Derived.Test.YtobepbpiagclnaaDoorSymG
import Derived.Test.YtobepbpiagclnaaDoorValGd
namespace Go.Proofs.YtobepbpiagclnaaDoor
set_option linter.unusedVariables false
open Go.ChangeShapes Go.WideShapes Go.ChangeAt Go.RowKit

theorem stableE_c (v f : Value) (w : World) :
    Calls Tryd.prog 28 #[v, .int .i64 0, f] w fun e w' => e = .returned (.tuple #[]) ∧ w = w' := by
  have Q := hide (insertE_c v f 0 w (by omega))
  go_enter Tryd.func28, Tryd.ntmps28
  go_wp2_with fail
  refine wp_loop_rounds 1 ?_
  rw [rounds_succ]
  go_wp2_with fail
  refine Q.out.mono ?_
  rintro e w1 ⟨rfl, rfl⟩
  go_wp2_with fail
  refine wp_loop_rounds 1 ?_
  rw [rounds_succ]
  go_wp2_with fail
  go_end0
  exact ⟨rfl, rfl⟩
theorem sortStableE_c (f : Value) (c : Nat) (A : Option Addr) (w : World) :
    Calls Tryd.prog 13 #[.slice A 0 c, f] w fun e w' => e = .returned (.tuple #[]) ∧ w = w' := by
  have Q := hide (stableE_c (.slice A 0 c) f w)
  go_enter Tryd.func13, Tryd.ntmps13
  go_wp2_with fail
  refine Q.out.mono ?_
  rintro e w1 ⟨rfl, rfl⟩
  go_wp2_with fail
  go_end0
  exact ⟨rfl, rfl⟩
/-- Rows, sorted, in new memory. -/
def GivesSorted (w : World) (n : Nat) (rows : List (List ValV)) (e : Ending) (w' : World) : Prop := ∃ X cx ps, e = .returned (.slice X n cx) ∧ HsAt w' X n cx ps ∧ sndL ps = sortedF rows ∧ Below w.heap.size w w'
theorem MovR.hs {base g n cap : Nat} {w wr : World} {D : List RowP} (h : MovR base g n cap w wr D) : HsAt wr (some ⟨g, 0, none⟩) n cap D := by
  have hl := h.at_.len
  have ho := h.at_.own
  subst hl
  obtain ⟨A, c, e, hs⟩ := sl_of_own (l := D) (f := hdC) (by rw [hdC_flat]; exact ho) (fun _ => rfl)
  injection e with e1 e2 e3
  subst e1 e3
  exact ⟨hs, h.at_.each⟩
theorem rises_snd {D : List RowP} (h : RisesP D) : Rises (sndL D) := List.Pairwise.map _ (fun _ _ h => h) h
set_option maxHeartbeats 2000000 in
theorem sortedG_c (A : Option Addr) (n c : Nat) (rows : List (List ValV)) (w : World) (h : RowsAt w w.heap.size A n c rows) (hn : n ≤ 1048576) (hr : ∀ r ∈ rows, r.length ≤ 1048576) :
    Calls Tryd.prog 5 #[.slice A n c] w (GivesSorted w n rows) := by
  have hl := h.len
  have Q := hide (rows_c A n c rows w h hn hr)
  clear h hr
  by_cases h0 : n = 0
  · subst h0
    obtain rfl : rows = [] := List.eq_nil_of_length_eq_zero hl
    go_enter Tryd.func5, Tryd.ntmps5
    go_wp2_with fail
    refine Q.out.mono ?_
    rintro e w1 ⟨⟨X, cx, rfl, hX, hb, _⟩, _⟩
    have HX := hide (show HsAt w1 X 0 cx [] from ⟨⟨rfl, Nat.zero_le _, hX.max, fun _ => rfl, ⟨by simp, Cells.none _ _ _⟩⟩, by simp⟩)
    have HB := hide hb
    have Q2 := hide (sortStableE_c (.func (.func 6) #[] #[]) cx X w1)
    clear hX hb Q
    go_wp2_with fail
    refine Q2.out.mono ?_
    rintro e w2 ⟨rfl, rfl⟩
    go_wp2_with fail
    go_ret
    exact ⟨X, cx, [], rfl, HX.out, rfl, HB.out⟩
  · go_enter Tryd.func5, Tryd.ntmps5
    go_wp2_with fail
    refine Q.out.mono ?_
    rintro e w1 ⟨_, hE⟩
    obtain ⟨rfl, ds, hd, hE⟩ := hE (by omega)
    have Q2 := hide (sortStableG_c w.heap.size w.heap.size n n w1 (ds.zip rows) (EachR.sort hE hd hl) (Nat.le_refl _) hE.below.size hn)
    have HB := hide hE.below
    have HS := hide (show (ds.zip rows).map Prod.snd = rows from List.map_snd_zip (by omega))
    clear hE Q
    go_wp2_with fail
    refine Q2.out.mono ?_
    rintro e w2 ⟨rfl, D, p, r, hM⟩
    have HX := hide hM.hs
    have HI : Hid (sndL D = sortedF rows) := by
      refine sorted_is ?_ (rises_snd r)
      have := p.map Prod.snd
      rw [HS.out] at this
      exact this
    have HB2 := hide (HB.out.trans hM.below)
    clear p r hM Q2
    go_wp2_with fail
    go_ret
    exact ⟨_, _, D, rfl, HX.out, HI.out, HB2.out⟩
def GivesBag (w : World) (rows rows2 : List (List ValV)) (e : Ending) (w' : World) : Prop := ∃ q : Bool, e = .returned (.bool q) ∧ (q = true ↔ rows.Perm rows2) ∧ Below w.heap.size w w'
set_option maxRecDepth 100000 in
set_option maxHeartbeats 2000000 in
theorem bagG_c (A A2 : Option Addr) (n c n2 c2 : Nat) (rows rows2 : List (List ValV)) (w : World) (h : RowsAt w w.heap.size A n c rows) (h2 : RowsAt w w.heap.size A2 n2 c2 rows2) (hn : n ≤ 1048576) (hn2 : n2 ≤ 1048576) (hr : ∀ r ∈ rows, r.length ≤ 1048576) (hr2 : ∀ r ∈ rows2, r.length ≤ 1048576) :
    Calls Tryd.prog 10 #[.slice A n c, .slice A2 n2 c2] w (GivesBag w rows rows2) := by
  have hl := h.len
  have hl2 := h2.len
  by_cases hnn : n = n2
  · subst hnn
    have Q1 := hide (sortedG_c A n c rows w h hn hr)
    have Q2 := hide (fun (W : World) (hW : Below w.heap.size w W) => sortedG_c A2 n c2 rows2 W (h2.kept hW) hn2 hr2)
    have HS := hide (@sorted_same rows rows2)
    have hne : ((n : Int) != (n : Int)) = false := by simp
    clear h h2 hr hr2
    go_enter Tryd.func10, Tryd.ntmps10
    go_wp2_with fail
    refine Q1.out.mono ?_
    rintro e w1 ⟨X, cx, ps, rfl, hX, hs, hb⟩
    have HX := hide hX
    have HB := hide hb
    have HE1 := hide hs
    clear hX hb hs Q1
    go_wp2_with fail
    refine (Q2.out _ HB.out).mono ?_
    rintro e w2 ⟨Y, cy, qs, rfl, hY, hs, hb⟩
    replace HX := hide (HX.out.kept hb)
    have HY := hide hY
    replace HB := hide (Bel.then HB.out hb)
    have HE2 := hide hs
    clear hY hb hs Q2
    have HB2 := hide (Below.refl w2.heap.size w2)
    go_wp2_with fail
    go_loopw [19] (fun i wr => ∃ k : Nat, k ≤ n ∧ i = .int .i64 k ∧ Hid (sndL (ps.take k) = sndL (qs.take k)) ∧ Hid (Below w2.heap.size w2 wr)) (fun i _ => n - (intOf i).toNat)
    case atStart => exact ⟨0, Nat.zero_le _, rfl, rfl, HB2⟩
    case round =>
      clear HB2
      obtain ⟨k, hkn, rfl, HE, HB2⟩ := hrel
      by_cases hlt : k < n
      · have hlti : (k : Int) < n := by omega
        have hwk : IntKind.i64.wrap ((k : Int) + 1) = (k : Int) + 1 := IntWalk.i64_in _ (by omega)
        obtain ⟨b, off, p, rfl, hp, Ha⟩ := (HX.out.kept HB2.out).head hlt
        obtain ⟨b2, off2, q, rfl, hq, Hb⟩ := (HY.out.kept HB2.out).head hlt
        have Q := hide (fun (W : World) (hW : Below w2.heap.size w2 W) => orders_c p.1.A q.1.A p.1.n p.1.c q.1.n q.1.c p.2 q.2 W ((HX.out.kept hW).each p (List.mem_of_getElem? hp)) ((HY.out.kept hW).each q (List.mem_of_getElem? hq)))
        have HN : Hid (cmpR p.2 q.2 = 0 → sndL (ps.take (k + 1)) = sndL (qs.take (k + 1))) := fun hz => by
          have h1 := HE.out
          unfold sndL at *
          rw [take_at hp, take_at hq, List.map_append, List.map_append, h1, List.map_cons, List.map_cons, cmpR_zero.1 hz, List.map_nil]
        have HZ : Hid (cmpR p.2 q.2 ≠ 0 → ¬ rows.Perm rows2) := fun hz he => by
          apply hz
          have he := HS.out.2 he
          rw [← HE1.out, ← HE2.out] at he
          unfold sndL at he
          have e1 : (ps.map Prod.snd)[k]? = some p.2 := by rw [List.getElem?_map, hp]; rfl
          have e2 : (qs.map Prod.snd)[k]? = some q.2 := by rw [List.getElem?_map, hq]; rfl
          rw [he, e2] at e1
          injection e1 with e1
          rw [e1]
          exact cmpR_refl _
        clear HE hp hq
        generalize cmpR p.2 q.2 = x at *
        generalize p.1.A = pA at *
        generalize p.1.n = pn at *
        generalize p.1.c = pc at *
        generalize q.1.A = qA at *
        generalize q.1.n = qn at *
        generalize q.1.c = qc at *
        replace Ha := hide Ha
        replace Hb := hide Hb
        go_upto_region 7 with (fail)
        refine wp_region_held_drew (S := (fun w' => HeadAt w' b (off + k) pA pn pc ∧ HeadAt w' b2 (off2 + k) qA qn qc ∧ Below w2.heap.size w2 w')) (by kernel_rfl) (⟨Ha.out.kept (Below.refl _ _).drew, Hb.out.kept (Below.refl _ _).drew, HB2.out.drew⟩) (fun hHeld => ?_)
        first | (refine wpAnyH_take (i := 0) (v := ?_) nth0 (by kernel_rfl) (by kernel_rfl) (by kernel_rfl) (fun _ _ _ h => h) (Or.inl ⟨by rfl, ?_⟩) hHeld ?_; rotate_left; focus (intro wS hSw; (obtain ⟨_, a_0⟩ := hSw.1; obtain ⟨_, b_0⟩ := hSw.2.1); go_simp; try with_reducible rfl; done)) | (refine wpAnyH_take (i := 0) (v := undef) nth0 (by kernel_rfl) (by kernel_rfl) (by kernel_rfl) (fun _ _ _ h => h) (Or.inr ⟨by rfl, rfl⟩) hHeld ?_)
        (try simp only [Act.put]); (try simp only [List.setIfInBounds_toArray]); (try simp only [List.set_cons_succ]); (try simp only [List.set_cons_zero])
        first | (refine wpAnyH_take (i := 1) (v := ?_) nth1 (by kernel_rfl) (by kernel_rfl) (by kernel_rfl) (fun _ _ _ h => h) (Or.inl ⟨by rfl, ?_⟩) hHeld ?_; rotate_left; focus (intro wS hSw; (obtain ⟨_, a_0⟩ := hSw.1; obtain ⟨_, b_0⟩ := hSw.2.1); go_simp; try with_reducible rfl; done)) | (refine wpAnyH_take (i := 1) (v := undef) nth1 (by kernel_rfl) (by kernel_rfl) (by kernel_rfl) (fun _ _ _ h => h) (Or.inr ⟨by rfl, rfl⟩) hHeld ?_)
        (try simp only [Act.put]); (try simp only [List.setIfInBounds_toArray]); (try simp only [List.set_cons_succ]); (try simp only [List.set_cons_zero])
        first | (refine wpAnyH_take (i := 2) (v := ?_) nth2 (by kernel_rfl) (by kernel_rfl) (by kernel_rfl) (fun _ _ _ h => h) (Or.inl ⟨by rfl, ?_⟩) hHeld ?_; rotate_left; focus (intro wS hSw; (obtain ⟨_, a_0⟩ := hSw.1; obtain ⟨_, b_0⟩ := hSw.2.1); go_simp; try with_reducible rfl; done)) | (refine wpAnyH_take (i := 2) (v := undef) nth2 (by kernel_rfl) (by kernel_rfl) (by kernel_rfl) (fun _ _ _ h => h) (Or.inr ⟨by rfl, rfl⟩) hHeld ?_)
        (try simp only [Act.put]); (try simp only [List.setIfInBounds_toArray]); (try simp only [List.set_cons_succ]); (try simp only [List.set_cons_zero])
        first | (refine wpAnyH_take (i := 3) (v := ?_) nth3 (by kernel_rfl) (by kernel_rfl) (by kernel_rfl) (fun _ _ _ h => h) (Or.inl ⟨by rfl, ?_⟩) hHeld ?_; rotate_left; focus (intro wS hSw; (obtain ⟨_, a_0⟩ := hSw.1; obtain ⟨_, b_0⟩ := hSw.2.1); go_simp; try with_reducible rfl; done)) | (refine wpAnyH_take (i := 3) (v := undef) nth3 (by kernel_rfl) (by kernel_rfl) (by kernel_rfl) (fun _ _ _ h => h) (Or.inr ⟨by rfl, rfl⟩) hHeld ?_)
        (try simp only [Act.put]); (try simp only [List.setIfInBounds_toArray]); (try simp only [List.set_cons_succ]); (try simp only [List.set_cons_zero])
        first | (refine wpAnyH_take (i := 4) (v := ?_) nth4 (by kernel_rfl) (by kernel_rfl) (by kernel_rfl) (fun _ _ _ h => h) (Or.inl ⟨by rfl, ?_⟩) hHeld ?_; rotate_left; focus (intro wS hSw; (obtain ⟨_, a_0⟩ := hSw.1; obtain ⟨_, b_0⟩ := hSw.2.1); go_simp; try with_reducible rfl; done)) | (refine wpAnyH_take (i := 4) (v := undef) nth4 (by kernel_rfl) (by kernel_rfl) (by kernel_rfl) (fun _ _ _ h => h) (Or.inr ⟨by rfl, rfl⟩) hHeld ?_)
        (try simp only [Act.put]); (try simp only [List.setIfInBounds_toArray]); (try simp only [List.set_cons_succ]); (try simp only [List.set_cons_zero])
        first | (refine wpAnyH_take (i := 5) (v := ?_) nth5 (by kernel_rfl) (by kernel_rfl) (by kernel_rfl) (fun _ _ _ h => h) (Or.inl ⟨by rfl, ?_⟩) hHeld ?_; rotate_left; focus (intro wS hSw; (obtain ⟨_, a_0⟩ := hSw.1; obtain ⟨_, b_0⟩ := hSw.2.1); go_simp; try with_reducible rfl; done)) | (refine wpAnyH_take (i := 5) (v := undef) nth5 (by kernel_rfl) (by kernel_rfl) (by kernel_rfl) (fun _ _ _ h => h) (Or.inr ⟨by rfl, rfl⟩) hHeld ?_)
        (try simp only [Act.put]); (try simp only [List.setIfInBounds_toArray]); (try simp only [List.set_cons_succ]); (try simp only [List.set_cons_zero])
        first | (refine wpAnyH_take (i := 6) (v := ?_) nth6 (by kernel_rfl) (by kernel_rfl) (by kernel_rfl) (fun _ _ _ h => h) (Or.inl ⟨by rfl, ?_⟩) hHeld ?_; rotate_left; focus (intro wS hSw; (obtain ⟨_, a_0⟩ := hSw.1; obtain ⟨_, b_0⟩ := hSw.2.1); go_simp; try with_reducible rfl; done)) | (refine wpAnyH_take (i := 6) (v := undef) nth6 (by kernel_rfl) (by kernel_rfl) (by kernel_rfl) (fun _ _ _ h => h) (Or.inr ⟨by rfl, rfl⟩) hHeld ?_)
        (try simp only [Act.put]); (try simp only [List.setIfInBounds_toArray]); (try simp only [List.set_cons_succ]); (try simp only [List.set_cons_zero])
        first | (refine wpAnyH_take (i := 7) (v := ?_) nth7 (by kernel_rfl) (by kernel_rfl) (by kernel_rfl) (fun _ _ _ h => h) (Or.inl ⟨by rfl, ?_⟩) hHeld ?_; rotate_left; focus (intro wS hSw; (obtain ⟨_, a_0⟩ := hSw.1; obtain ⟨_, b_0⟩ := hSw.2.1); go_simp; try with_reducible rfl; done)) | (refine wpAnyH_take (i := 7) (v := undef) nth7 (by kernel_rfl) (by kernel_rfl) (by kernel_rfl) (fun _ _ _ h => h) (Or.inr ⟨by rfl, rfl⟩) hHeld ?_)
        (try simp only [Act.put]); (try simp only [List.setIfInBounds_toArray]); (try simp only [List.set_cons_succ]); (try simp only [List.set_cons_zero])
        refine wpAnyH_ready (rs := [8]) (by kernel_rfl) (by simp) ?_
        refine AllReadyH.cons nth8 (fun K hK => ?_) AllReadyH.nil
        go_simp
        (go_at_call 6; refine (Q.out _ hHeld.2.2).mono ?_; rintro e w' ⟨rfl, hb⟩)
        refine hK.out _ _ (⟨hHeld.1.kept hb, hHeld.2.1.kept hb, Bel.then hHeld.2.2 hb⟩) (fun hHeld => ?_)
        clear hK K
        (try simp only [Act.put]); (try simp only [List.setIfInBounds_toArray]); (try simp only [List.set_cons_succ]); (try simp only [List.set_cons_zero])
        first | (refine wpAnyH_take (i := 9) (v := ?_) nth9 (by kernel_rfl) (by kernel_rfl) (by kernel_rfl) (fun _ _ _ h => h) (Or.inl ⟨by rfl, ?_⟩) hHeld ?_; rotate_left; focus (intro wS hSw; (obtain ⟨_, a_0⟩ := hSw.1; obtain ⟨_, b_0⟩ := hSw.2.1); go_simp; try with_reducible rfl; done)) | (refine wpAnyH_take (i := 9) (v := undef) nth9 (by kernel_rfl) (by kernel_rfl) (by kernel_rfl) (fun _ _ _ h => h) (Or.inr ⟨by rfl, rfl⟩) hHeld ?_)
        (try simp only [Act.put]); (try simp only [List.setIfInBounds_toArray]); (try simp only [List.set_cons_succ]); (try simp only [List.set_cons_zero])
        refine wpAnyH_done (by kernel_rfl) ?_ _
        replace HB2 := hide hHeld.2.2
        clear hb hHeld Ha Hb Q
        by_cases hx : x = 0
        · have HY2 := hide (HN.out hx)
          have f1 : (x != 0) = false := by simp [hx]
          clear hx HN HZ
          go_wp2_with fail
          go_roundw
          case rel => exact ⟨k + 1, by omega, by go_num, HY2, HB2⟩
          case measure => simp [intOf]; omega
        · have HY2 := hide (HZ.out hx)
          have f1 : (x != 0) = true := by simp [hx]
          replace HB := hide (Bel.then HB.out HB2.out)
          clear hx HN HZ
          go_wp2_with fail
          go_ret
          exact ⟨false, rfl, ⟨fun e => (by cases e), fun e => absurd e HY2.out⟩, HB.out⟩
      · have hlti : ¬ (k : Int) < n := by omega
        obtain rfl : k = n := by omega
        have HP : Hid (rows.Perm rows2) := HS.out.1 (by
          have := HE.out
          rw [List.take_of_length_le (by have := HX.out.sl.len; omega), List.take_of_length_le (by have := HY.out.sl.len; omega)] at this
          rw [← HE1.out, ← HE2.out]
          exact this)
        replace HB := hide (Bel.then HB.out HB2.out)
        clear HE
        go_wp2_with fail
        go_ret
        exact ⟨true, rfl, ⟨fun _ => HP.out, fun _ => rfl⟩, HB.out⟩
  · have HP : Hid (¬ rows.Perm rows2) := fun p => hnn (by have := p.length_eq; omega)
    have hne : ((n : Int) != (n2 : Int)) = true := by simp; omega
    clear h h2 hr hr2
    go_enter Tryd.func10, Tryd.ntmps10
    go_wp2_with fail
    go_ret
    exact ⟨false, rfl, ⟨fun e => (by cases e), fun e => absurd e HP.out⟩, Below.refl _ _⟩
end Go.Proofs.YtobepbpiagclnaaDoor
