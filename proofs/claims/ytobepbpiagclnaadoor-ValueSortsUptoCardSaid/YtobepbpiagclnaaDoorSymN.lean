/- The walk of ValueSorts. -/
import Derived.Test.YtobepbpiagclnaaDoorSymK
import Derived.Test.YtobepbpiagclnaaDoorValGc
import Derived.Deep.Cut
namespace Go.Proofs.YtobepbpiagclnaaDoor
set_option linter.unusedVariables false
open Go.ChangeShapes Go.WideShapes Go.ChangeAt Go.RowKit

theorem rises_at {l : List (List ValV)} (h : Rises l) {i : Nat} {x y : List ValV} (hx : l[i]? = some x) (hy : l[i + 1]? = some y) : cmpR x y ≤ 0 := by
  obtain ⟨h1, rfl⟩ := List.getElem?_eq_some_iff.1 hx
  obtain ⟨h2, rfl⟩ := List.getElem?_eq_some_iff.1 hy
  exact List.pairwise_iff_getElem.1 h i (i + 1) h1 h2 (by omega)
/-- The place from which the law turns the rows. -/
theorem turn_k (t : Int) (n : Nat) (hn : 0 < n) : ∃ kk : Nat, kk < n ∧ Int.tmod (Int.tmod t n + n) n = (kk : Int) ∧ -(n : Int) < Int.tmod t n ∧ Int.tmod t n < n := by
  have h1 : -(n : Int) < Int.tmod t n := by
    have h0 := Int.tmod_eq_emod (a := t) (b := (n : Int))
    have e1 := Int.emod_nonneg t (b := (n : Int)) (by omega)
    have e2 := Int.emod_lt_of_pos t (b := (n : Int)) (by omega)
    split at h0 <;> omega
  have h2 : Int.tmod t n < n := by
    have h0 := Int.tmod_eq_emod (a := t) (b := (n : Int))
    have e1 := Int.emod_nonneg t (b := (n : Int)) (by omega)
    have e2 := Int.emod_lt_of_pos t (b := (n : Int)) (by omega)
    split at h0 <;> omega
  refine ⟨(Int.tmod (Int.tmod t n + n) n).toNat, ?_, ?_, h1, h2⟩
  all_goals
    rw [Int.tmod_eq_emod_of_nonneg (by omega)]
    have e1 := Int.emod_nonneg (Int.tmod t n + n) (b := (n : Int)) (by omega)
    have e2 := Int.emod_lt_of_pos (Int.tmod t n + n) (b := (n : Int)) (by omega)
    omega
set_option maxRecDepth 100000 in
set_option maxHeartbeats 8000000 in
theorem sorts_w (A : Option Addr) (n c : Nat) (turn : Int) (ps : List HRow) (w : World) (hW : ValW w) (h : HsAt w A n c ps) (hn : n ≤ 1048576) (hg : ∀ p ∈ ps, StrsOk p.2 ∧ p.2.length ≤ 1048576) :
    Calls Tryd.prog 3 #[.slice A n c, .int .i64 turn] w fun e w' => e = .returned (.bool true) ∧ Below w.heap.size w w' := by
  obtain ⟨i0, hi0, hz0, hz1, hz2⟩ := info_parts row_info
  have hl := h.sl.len
  have hgr : ∀ r ∈ sndL ps, StrsOk r ∧ r.length ≤ 1048576 := fun r hr => by
    obtain ⟨p, hp, rfl⟩ := List.mem_map.1 hr
    exact hg p hp
  have HW := hide hW
  have HP := hide h
  have HGr := hide hgr
  have Q3 := hide (sortedG_c A n c (sndL ps) w h.nest hn (fun r hr => (hgr r hr).2))
  have Q4 := hide (fun (W : World) (hb : Below w.heap.size w W) => rsorted_c A n c ps W (h.kept hb) hn hg)
  have HRise := hide (sortedF_rises (sndL ps))
  have HSm : Hid (∀ r ∈ sortedF (sndL ps), StrsOk r ∧ r.length ≤ 1048576) := fun r hr => hgr r ((sortedF_perm _).mem_iff.1 hr)
  clear h hg hgr hW
  go_enter Tryd.func3, Tryd.ntmps3
  go_wp2_with fail
  refine Q3.out.mono ?_
  rintro e w3 ⟨X, cx, os, rfl, hx, he, hb⟩
  have HB := hide hb
  have HX := hide hx
  have HE := hide he
  clear Q3 hb hx he
  have HB3 := hide (Below.refl w3.heap.size w3)
  go_wp2_with fail
  go_loopw [6] (fun iv wr => ∃ i : Nat, iv = .int .i64 ((i + 1 : Nat) : Int) ∧ i ≤ n ∧ Hid (Below w3.heap.size w3 wr)) (fun iv _ => n + 1 - (intOf iv).toNat)
  case atStart => exact ⟨0, rfl, Nat.zero_le _, HB3⟩
  case round =>
    clear HB3
    obtain ⟨i, rfl, hin, HB3⟩ := hrel
    by_cases hlt : i + 1 < n
    · obtain ⟨j, hj⟩ : ∃ j, i + 1 = j := ⟨_, rfl⟩
      have hlti : ((i + 1 : Nat) : Int) < n := by omega
      have w1 : IntKind.i64.wrap (((i + 1 : Nat) : Int) - 1) = (i : Int) := by rw [IntWalk.i64_in _ (by omega)]; omega
      have w2 : (((i + 1 : Nat) : Int) - 1) = (i : Int) := by omega
      have w3' : IntKind.i64.wrap (i : Int) = (i : Int) := IntWalk.i64_in _ (by omega)
      have w4' : IntKind.i64.wrap (((i + 1 : Nat) : Int) + 1) = ((i + 1 + 1 : Nat) : Int) := by rw [IntWalk.i64_in _ (by omega)]; omega
      have l1 : (i : Int) < n := by omega
      have l2 : (0 : Int) ≤ (i : Int) := by omega
      have l3 : (0 : Int) ≤ ((i + 1 : Nat) : Int) := by omega
      obtain ⟨b, off, p, rfl, hp, Ha⟩ := (HX.out.kept HB3.out).head hlt
      obtain ⟨b', off', p', e', hp', Hb⟩ := (HX.out.kept HB3.out).head (show i < n by omega)
      injection e' with e'
      injection e' with e1 e2
      subst e1 e2
      have Q := hide (fun (W : World) (hW : Below w3.heap.size w3 W) => orders_c p'.1.A p.1.A p'.1.n p'.1.c p.1.n p.1.c p'.2 p.2 W ((HX.out.kept hW).each p' (List.mem_of_getElem? hp')) ((HX.out.kept hW).each p (List.mem_of_getElem? hp)))
      have s1 : (sortedF (sndL ps))[i + 1]? = some p.2 := by rw [← HE.out]; unfold sndL; rw [List.getElem?_map, hp]; rfl
      have s2 : (sortedF (sndL ps))[i]? = some p'.2 := by rw [← HE.out]; unfold sndL; rw [List.getElem?_map, hp']; rfl
      have hle := rises_at HRise.out s2 s1
      generalize cmpR p'.2 p.2 = z at *
      have f9 : decide ((0 : Int) < z) = false := decide_eq_false (by omega)
      have hoff : off + (i + 1) = off + (i + 1) := rfl
      generalize p.1.A = pA at *
      generalize p.1.n = pn at *
      generalize p.1.c = pc at *
      generalize p'.1.A = qA at *
      generalize p'.1.n = qn at *
      generalize p'.1.c = qc at *
      clear hp hp' s1 s2 hoff hj
      replace Ha := hide Ha
      replace Hb := hide Hb
      generalize hj : i + 1 = j at *
      go_upto_region 5 with (fail)
      refine wp_region_held_drew (S := (fun w' => HeadAt w' b (off + j) pA pn pc ∧ HeadAt w' b (off + i) qA qn qc ∧ Below w3.heap.size w3 w')) (by kernel_rfl) (⟨Ha.out.kept (Below.refl _ _).drew, Hb.out.kept (Below.refl _ _).drew, HB3.out.drew⟩) (fun hHeld => ?_)
      first | (refine wpAnyH_take (i := 0) (v := ?_) nth0 (by kernel_rfl) (by kernel_rfl) (by kernel_rfl) (fun _ _ _ h => h) (Or.inl ⟨by rfl, ?_⟩) hHeld ?_; rotate_left; focus (intro wS hSw; (obtain ⟨_, a_0⟩ := hSw.1; obtain ⟨_, b_0⟩ := hSw.2.1); go_simp; try with_reducible rfl; done)) | (refine wpAnyH_take (i := 0) (v := undef) nth0 (by kernel_rfl) (by kernel_rfl) (by kernel_rfl) (fun _ _ _ h => h) (Or.inr ⟨by rfl, rfl⟩) hHeld ?_)
      (try simp only [Act.put]); (try simp only [List.setIfInBounds_toArray]); (try simp only [List.set_cons_succ]); (try simp only [List.set_cons_zero])
      first | (refine wpAnyH_take (i := 1) (v := ?_) nth1 (by kernel_rfl) (by kernel_rfl) (by kernel_rfl) (fun _ _ _ h => h) (Or.inl ⟨by rfl, ?_⟩) hHeld ?_; rotate_left; focus (intro wS hSw; (obtain ⟨_, a_0⟩ := hSw.1; obtain ⟨_, b_0⟩ := hSw.2.1); go_simp; try with_reducible rfl; done)) | (refine wpAnyH_take (i := 1) (v := undef) nth1 (by kernel_rfl) (by kernel_rfl) (by kernel_rfl) (fun _ _ _ h => h) (Or.inr ⟨by rfl, rfl⟩) hHeld ?_)
      (try simp only [Act.put]); (try simp only [List.setIfInBounds_toArray]); (try simp only [List.set_cons_succ]); (try simp only [List.set_cons_zero])
      first | (refine wpAnyH_take (i := 2) (v := ?_) nth2 (by kernel_rfl) (by kernel_rfl) (by kernel_rfl) (fun _ _ _ h => h) (Or.inl ⟨by rfl, ?_⟩) hHeld ?_; rotate_left; focus (intro wS hSw; (obtain ⟨_, a_0⟩ := hSw.1; obtain ⟨_, b_0⟩ := hSw.2.1); go_simp; try with_reducible rfl; done)) | (refine wpAnyH_take (i := 2) (v := undef) nth2 (by kernel_rfl) (by kernel_rfl) (by kernel_rfl) (fun _ _ _ h => h) (Or.inr ⟨by rfl, rfl⟩) hHeld ?_)
      (try simp only [Act.put]); (try simp only [List.setIfInBounds_toArray]); (try simp only [List.set_cons_succ]); (try simp only [List.set_cons_zero])
      first | (refine wpAnyH_take (i := 3) (v := ?_) nth3 (by kernel_rfl) (by kernel_rfl) (by kernel_rfl) (fun _ _ _ h => h) (Or.inl ⟨by rfl, ?_⟩) hHeld ?_; rotate_left; focus (intro wS hSw; (obtain ⟨_, a_0⟩ := hSw.1; obtain ⟨_, b_0⟩ := hSw.2.1); go_simp; try with_reducible rfl; done)) | (refine wpAnyH_take (i := 3) (v := undef) nth3 (by kernel_rfl) (by kernel_rfl) (by kernel_rfl) (fun _ _ _ h => h) (Or.inr ⟨by rfl, rfl⟩) hHeld ?_)
      (try simp only [Act.put]); (try simp only [List.setIfInBounds_toArray]); (try simp only [List.set_cons_succ]); (try simp only [List.set_cons_zero])
      first | (refine wpAnyH_take (i := 4) (v := ?_) nth4 (by kernel_rfl) (by kernel_rfl) (by kernel_rfl) (fun _ _ _ h => h) (Or.inl ⟨by rfl, ?_⟩) hHeld ?_; rotate_left; focus (intro wS hSw; (obtain ⟨_, a_0⟩ := hSw.1; obtain ⟨_, b_0⟩ := hSw.2.1); go_simp; try with_reducible rfl; done)) | (refine wpAnyH_take (i := 4) (v := undef) nth4 (by kernel_rfl) (by kernel_rfl) (by kernel_rfl) (fun _ _ _ h => h) (Or.inr ⟨by rfl, rfl⟩) hHeld ?_)
      (try simp only [Act.put]); (try simp only [List.setIfInBounds_toArray]); (try simp only [List.set_cons_succ]); (try simp only [List.set_cons_zero])
      first | (refine wpAnyH_take (i := 5) (v := ?_) nth5 (by kernel_rfl) (by kernel_rfl) (by kernel_rfl) (fun _ _ _ h => h) (Or.inl ⟨by rfl, ?_⟩) hHeld ?_; rotate_left; focus (intro wS hSw; (obtain ⟨_, a_0⟩ := hSw.1; obtain ⟨_, b_0⟩ := hSw.2.1); go_simp; try with_reducible rfl; done)) | (refine wpAnyH_take (i := 5) (v := undef) nth5 (by kernel_rfl) (by kernel_rfl) (by kernel_rfl) (fun _ _ _ h => h) (Or.inr ⟨by rfl, rfl⟩) hHeld ?_)
      (try simp only [Act.put]); (try simp only [List.setIfInBounds_toArray]); (try simp only [List.set_cons_succ]); (try simp only [List.set_cons_zero])
      first | (refine wpAnyH_take (i := 6) (v := ?_) nth6 (by kernel_rfl) (by kernel_rfl) (by kernel_rfl) (fun _ _ _ h => h) (Or.inl ⟨by rfl, ?_⟩) hHeld ?_; rotate_left; focus (intro wS hSw; (obtain ⟨_, a_0⟩ := hSw.1; obtain ⟨_, b_0⟩ := hSw.2.1); go_simp; try with_reducible rfl; done)) | (refine wpAnyH_take (i := 6) (v := undef) nth6 (by kernel_rfl) (by kernel_rfl) (by kernel_rfl) (fun _ _ _ h => h) (Or.inr ⟨by rfl, rfl⟩) hHeld ?_)
      (try simp only [Act.put]); (try simp only [List.setIfInBounds_toArray]); (try simp only [List.set_cons_succ]); (try simp only [List.set_cons_zero])
      first | (refine wpAnyH_take (i := 7) (v := ?_) nth7 (by kernel_rfl) (by kernel_rfl) (by kernel_rfl) (fun _ _ _ h => h) (Or.inl ⟨by rfl, ?_⟩) hHeld ?_; rotate_left; focus (intro wS hSw; (obtain ⟨_, a_0⟩ := hSw.1; obtain ⟨_, b_0⟩ := hSw.2.1); go_simp; try with_reducible rfl; done)) | (refine wpAnyH_take (i := 7) (v := undef) nth7 (by kernel_rfl) (by kernel_rfl) (by kernel_rfl) (fun _ _ _ h => h) (Or.inr ⟨by rfl, rfl⟩) hHeld ?_)
      (try simp only [Act.put]); (try simp only [List.setIfInBounds_toArray]); (try simp only [List.set_cons_succ]); (try simp only [List.set_cons_zero])
      first | (refine wpAnyH_take (i := 8) (v := ?_) nth8 (by kernel_rfl) (by kernel_rfl) (by kernel_rfl) (fun _ _ _ h => h) (Or.inl ⟨by rfl, ?_⟩) hHeld ?_; rotate_left; focus (intro wS hSw; (obtain ⟨_, a_0⟩ := hSw.1; obtain ⟨_, b_0⟩ := hSw.2.1); go_simp; try with_reducible rfl; done)) | (refine wpAnyH_take (i := 8) (v := undef) nth8 (by kernel_rfl) (by kernel_rfl) (by kernel_rfl) (fun _ _ _ h => h) (Or.inr ⟨by rfl, rfl⟩) hHeld ?_)
      (try simp only [Act.put]); (try simp only [List.setIfInBounds_toArray]); (try simp only [List.set_cons_succ]); (try simp only [List.set_cons_zero])
      refine wpAnyH_ready (rs := [9]) (by kernel_rfl) (by simp) ?_
      refine AllReadyH.cons nth9 (fun K hK => ?_) AllReadyH.nil
      go_simp
      (go_at_call 6; refine (Q.out _ hHeld.2.2).mono ?_; rintro e w' ⟨rfl, hb⟩)
      refine hK.out _ _ (⟨hHeld.1.kept hb, hHeld.2.1.kept hb, Bel.then hHeld.2.2 hb⟩) (fun hHeld => ?_)
      clear hK K
      (try simp only [Act.put]); (try simp only [List.setIfInBounds_toArray]); (try simp only [List.set_cons_succ]); (try simp only [List.set_cons_zero])
      first | (refine wpAnyH_take (i := 10) (v := ?_) nth10 (by kernel_rfl) (by kernel_rfl) (by kernel_rfl) (fun _ _ _ h => h) (Or.inl ⟨by rfl, ?_⟩) hHeld ?_; rotate_left; focus (intro wS hSw; (obtain ⟨_, a_0⟩ := hSw.1; obtain ⟨_, b_0⟩ := hSw.2.1); go_simp; try with_reducible rfl; done)) | (refine wpAnyH_take (i := 10) (v := undef) nth10 (by kernel_rfl) (by kernel_rfl) (by kernel_rfl) (fun _ _ _ h => h) (Or.inr ⟨by rfl, rfl⟩) hHeld ?_)
      (try simp only [Act.put]); (try simp only [List.setIfInBounds_toArray]); (try simp only [List.set_cons_succ]); (try simp only [List.set_cons_zero])
      refine wpAnyH_done (by kernel_rfl) ?_ _
      replace HB3 := hide hHeld.2.2
      clear hHeld Ha Hb Q
      go_wp2_with fail
      go_roundw
      case rel => exact ⟨j, rfl, by omega, HB3⟩
      case measure => simp [intOf]; omega
    · have hlti : ¬ ((i + 1 : Nat) : Int) < n := by omega
      replace HB := hide (Bel.then HB.out HB3.out)
      replace HX := hide (HX.out.kept HB3.out)
      clear HB3 HRise
      by_cases h0 : n = 0
      · subst h0
        have hkn : 0 ≤ 0 := by omega
        have hcx := HP.out.sl.cap
        have hfr := fun W => front_run (A := A) (n := 0) (c := c) (k := 0) (by omega) W
        have hbk := fun W => back_run (A := A) (n := 0) (c := c) (j := 0) hkn W
        rw [show (((0 : Nat) : Int)) = 0 from rfl] at hfr hbk
        have HF := hide (hs_front (HP.out.kept HB.out) hkn)
        have HD := hide (hs_back (HP.out.kept HB.out) hkn)
        have hl1 : (ps.take 0).length = 0 := by rw [List.length_take]; omega
        have hl2 : (ps.drop 0).length = 0 - 0 := by rw [List.length_drop]; omega
        have HPerm : Hid ((sndL (ps.drop 0 ++ ps.take 0)).Perm (sndL ps)) := by
          show List.Perm _ _
          unfold sndL
          exact (List.perm_append_comm.trans (by rw [List.take_append_drop])).map _
        have HMem : Hid (∀ p ∈ ps.drop 0 ++ ps.take 0, p ∈ ps) := fun p hp => by
          rcases List.mem_append.1 hp with hp | hp
          · exact List.mem_of_mem_drop hp
          · exact List.mem_of_mem_take hp
        have hlt2 : (ps.drop 0 ++ ps.take 0).length = 0 := by rw [List.length_append]; omega
        generalize ps.take 0 = L1 at *
        generalize ps.drop 0 = L2 at *
        generalize fstA c A = X1 at *
        generalize sndA c 0 A = X2 at *
        obtain ⟨m2, hm2⟩ : ∃ m2, 0 - 0 = m2 := ⟨_, rfl⟩
        rw [hm2] at hbk HD hl2
        generalize c - 0 = c2 at *
        go_upto_region 10 with (fail)
        refine wp_region_held_drew (S := fun w' => Below wr.heap.size wr w') (by kernel_rfl) ((Below.refl wr.heap.size wr).drew) (fun hHeld => ?_)
        first | (refine wpAnyH_take (i := 1) (v := ?_) nth1 (by kernel_rfl) (by kernel_rfl) (by kernel_rfl) (fun _ _ _ h => h) (Or.inl ⟨by rfl, ?_⟩) hHeld ?_; rotate_left; focus (intro wS hSw; go_simp; try with_reducible rfl; done)) | fail
        (try simp only [Act.put]); (try simp only [List.setIfInBounds_toArray]); (try simp only [List.set_cons_succ]); (try simp only [List.set_cons_zero])
        first | (refine wpAnyH_take (i := 2) (v := ?_) nth2 (by kernel_rfl) (by kernel_rfl) (by kernel_rfl) (fun _ _ _ h => h) (Or.inl ⟨by rfl, ?_⟩) hHeld ?_; rotate_left; focus (intro wS hSw; go_simp; try with_reducible rfl; done)) | fail
        (try simp only [Act.put]); (try simp only [List.setIfInBounds_toArray]); (try simp only [List.set_cons_succ]); (try simp only [List.set_cons_zero])
        first | (refine wpAnyH_take (i := 5) (v := ?_) nth5 (by kernel_rfl) (by kernel_rfl) (by kernel_rfl) (fun _ _ _ h => h) (Or.inl ⟨by rfl, ?_⟩) hHeld ?_; rotate_left; focus (intro wS hSw; go_simp; try with_reducible rfl; done)) | fail
        (try simp only [Act.put]); (try simp only [List.setIfInBounds_toArray]); (try simp only [List.set_cons_succ]); (try simp only [List.set_cons_zero])
        first | (refine wpAnyH_take (i := 6) (v := ?_) nth6 (by kernel_rfl) (by kernel_rfl) (by kernel_rfl) (fun _ _ _ h => h) (Or.inl ⟨by rfl, ?_⟩) hHeld ?_; rotate_left; focus (intro wS hSw; go_simp; try with_reducible rfl; done)) | fail
        (try simp only [Act.put]); (try simp only [List.setIfInBounds_toArray]); (try simp only [List.set_cons_succ]); (try simp only [List.set_cons_zero])
        first | (refine wpAnyH_take (i := 3) (v := ?_) nth3 (by kernel_rfl) (by kernel_rfl) (by kernel_rfl) (fun _ _ _ h => h) (Or.inl ⟨by rfl, ?_⟩) hHeld ?_; rotate_left; focus (intro wS hSw; go_simp; try with_reducible rfl; done)) | fail
        (try simp only [Act.put]); (try simp only [List.setIfInBounds_toArray]); (try simp only [List.set_cons_succ]); (try simp only [List.set_cons_zero])
        first | (refine wpAnyH_take (i := 7) (v := ?_) nth7 (by kernel_rfl) (by kernel_rfl) (by kernel_rfl) (fun _ _ _ h => h) (Or.inl ⟨by rfl, ?_⟩) hHeld ?_; rotate_left; focus (intro wS hSw; go_simp; try with_reducible rfl; done)) | fail
        (try simp only [Act.put]); (try simp only [List.setIfInBounds_toArray]); (try simp only [List.set_cons_succ]); (try simp only [List.set_cons_zero])
        have HO0 := hide (World.ownsRow_lit (base := wr.heap.size) (e := 26) (size := 1) wr.drew #[] 0 (Nat.le_refl _) (by simp [maxLen]) rfl)
        refine wpAnyH_ready (rs := [0]) (by kernel_rfl) (by simp) ?_
        refine AllReadyH.cons nth0 (fun K hK => ?_) AllReadyH.nil
        go_simp
        refine hK.out _ _ (Bel.alloc hHeld _) (fun hHeld => ?_)
        clear hK K
        (try simp only [Act.put]); (try simp only [List.setIfInBounds_toArray]); (try simp only [List.set_cons_succ]); (try simp only [List.set_cons_zero])
        refine wpAnyH_ready (rs := [4]) (by kernel_rfl) (by simp) ?_
        refine AllReadyH.cons nth4 (fun K hK => ?_) AllReadyH.nil
        refine step_app rfl (.tmp 41) (.tmp 44) 22 rfl wr.heap.size 26 i0 _ 1 24 Tryd.underlying22 hi0 hz0 hz1 hz2 rfl (by omega) _ 0 [] rfl HO0.out _ X2 m2 c2 (L2.map hdV) rfl (by rw [List.length_map, hl2, Nat.mul_one]) (by have := (HD.out.kept hHeld).sl.recs.2; rw [hdC_flat] at this; exact this) (hd_one _) (by unfold maxLen; omega) (by omega) hHeld.size HD.out.sl.nil ?_
        intro v1 w1 hown hgr _
        have HN := hide (show OwnH wr.heap.size w1 v1 L2 from by unfold OwnH; rw [hl2]; rw [Nat.zero_add, List.nil_append] at hown; exact hown)
        have hs1 := own_grown hHeld hgr (by intro q hq; have hk2 : wr.heap.size = q := Option.some.inj hq; omega)
        clear hHeld hown hgr HO0
        refine hK.out _ _ hs1 (fun hHeld => ?_)
        clear hK K hs1
        (try simp only [Act.put]); (try simp only [List.setIfInBounds_toArray]); (try simp only [List.set_cons_succ]); (try simp only [List.set_cons_zero])
        refine wpAnyH_ready (rs := [8]) (by kernel_rfl) (by simp) ?_
        refine AllReadyH.cons nth8 (fun K hK => ?_) AllReadyH.nil
        refine step_app rfl (.tmp 45) (.tmp 48) 22 rfl wr.heap.size 26 i0 _ 1 24 Tryd.underlying22 hi0 hz0 hz1 hz2 rfl (by omega) v1 L2.length (L2.map hdV) rfl HN.out _ X1 0 c (L1.map hdV) rfl (by rw [List.length_map, hl1, Nat.mul_one]) (by have := (HF.out.kept hHeld).sl.recs.2; rw [hdC_flat] at this; exact this) (hd_one _) (by unfold maxLen; omega) (by omega) hHeld.size HF.out.sl.nil ?_
        intro v2 w2 hown hgr _
        have HN2 := hide (show OwnH wr.heap.size w2 v2 (L2 ++ L1) from by unfold OwnH; rw [List.length_append, List.map_append, hl1]; exact hown)
        have hs1 := own_grown hHeld hgr HN.out.blk
        clear hHeld hown hgr HN
        refine hK.out _ _ hs1 (fun hHeld => ?_)
        clear hK K hs1
        (try simp only [Act.put]); (try simp only [List.setIfInBounds_toArray]); (try simp only [List.set_cons_succ]); (try simp only [List.set_cons_zero])
        first | (refine wpAnyH_take (i := 9) (v := ?_) nth9 (by kernel_rfl) (by kernel_rfl) (by kernel_rfl) (fun _ _ _ h => h) (Or.inl ⟨by rfl, ?_⟩) hHeld ?_; rotate_left; focus (intro wS hSw; go_simp; try with_reducible rfl; done)) | fail
        (try simp only [Act.put]); (try simp only [List.setIfInBounds_toArray]); (try simp only [List.set_cons_succ]); (try simp only [List.set_cons_zero])
        refine wpAnyH_done (by kernel_rfl) ?_ _
        have HBr := hide hHeld
        clear hHeld HF HD hfr hbk
        obtain ⟨A9, c9, rfl, h9⟩ := HN2.out.hs (Bel.then HB.out HBr.out) (fun p hp => HP.out.each p (HMem.out p hp))
        rw [hlt2] at h9 ⊢
        have H9 := hide h9
        replace HB := hide (Bel.then HB.out HBr.out)
        replace HX := hide (HX.out.kept HBr.out)
        clear h9 HN2 HBr
        have Q6 := hide (fun (W : World) (hW : Below w2.heap.size w2 W) => sortedG_c A9 0 c9 (sndL (L2 ++ L1)) W (H9.out.kept hW).nest hn (fun r hr => (HGr.out r (HPerm.out.mem_iff.1 hr)).2))
        have HS6 := hide (sorted_same.2 HPerm.out)
        have QA := hide (awake_c w2 (HW.out.keep HB.out))
        have HB9 := hide (Below.refl w2.heap.size w2)
        go_wp2_with fail
        refine QA.out.mono ?_
        rintro e w3 ⟨rfl, hb⟩
        replace HB := hide (Bel.then HB.out hb)
        replace HX := hide (HX.out.kept hb)
        replace HB9 := hide (Bel.then HB9.out hb)
        clear hb QA
        go_wp2_with fail
        refine (Q4.out _ HB.out).mono ?_
        rintro e w4 ⟨A5, c5, ys, rfl, hy, he, hb⟩
        replace HB := hide (Bel.then HB.out hb)
        replace HX := hide (HX.out.kept hb)
        replace HB9 := hide (Bel.then HB9.out hb)
        have HY := hide hy.hs
        have HF := hide he
        clear hb hy he
        have QT := hide (List_c X A5 0 cx 0 c5 os ys w4 HX.out HY.out (fun p hp => (HSm.out p.2 (by rw [← HE.out]; exact List.mem_map.2 ⟨p, hp, rfl⟩)).1) (fun p hp => (HSm.out p.2 (by rw [← HF.out]; exact List.mem_map.2 ⟨p, hp, rfl⟩)).1))
        go_wp2_with fail
        refine QT.out.mono ?_
        rintro e w5 ⟨q, rfl, hq, hb⟩
        obtain rfl : q = true := hq.2 (HE.out.trans HF.out.symm)
        replace HB := hide (Bel.then HB.out hb)
        replace HX := hide (HX.out.kept hb)
        replace HB9 := hide (Bel.then HB9.out hb)
        clear hb hq QT HY HF
        have QG := hide (bagG_c X A 0 cx 0 c (os.map Prod.snd) (ps.map Prod.snd) w5 HX.out.nest (HP.out.kept HB.out).nest hn hn (fun r hr => (HSm.out r (by rw [← HE.out]; exact hr)).2) (fun r hr => (HGr.out r hr).2))
        go_wp2_with fail
        refine QG.out.mono ?_
        rintro e w6 ⟨q, rfl, hq, hb⟩
        obtain rfl : q = true := hq.2 (by have h1 := HE.out; unfold sndL at h1; rw [h1]; exact sortedF_perm _)
        replace HB := hide (Bel.then HB.out hb)
        replace HX := hide (HX.out.kept hb)
        replace HB9 := hide (Bel.then HB9.out hb)
        clear hb hq QG
        go_wp2_with fail
        refine (Q6.out _ HB9.out).mono ?_
        rintro e w7 ⟨A6, c6, zs, rfl, hz, he, hb⟩
        replace HB := hide (Bel.then HB.out hb)
        replace HX := hide (HX.out.kept hb)
        have HZ := hide hz
        have HF := hide (he.trans HS6.out)
        clear hb hz he HB9
        have QT := hide (List_c A6 X 0 c6 0 cx zs os w7 HZ.out HX.out (fun p hp => (HSm.out p.2 (by rw [← HF.out]; exact List.mem_map.2 ⟨p, hp, rfl⟩)).1) (fun p hp => (HSm.out p.2 (by rw [← HE.out]; exact List.mem_map.2 ⟨p, hp, rfl⟩)).1))
        go_wp2_with fail
        refine QT.out.mono ?_
        rintro e w8 ⟨q, rfl, hq, hb⟩
        obtain rfl : q = true := hq.2 (HF.out.trans HE.out.symm)
        replace HB := hide (Bel.then HB.out hb)
        replace HX := hide (HX.out.kept hb)
        clear hb hq QT HZ HF
        have Q7 := hide (sortedG_c X 0 cx (os.map Prod.snd) w8 HX.out.nest hn (fun r hr => (HSm.out r (by rw [← HE.out]; exact hr)).2))
        go_wp2_with fail
        refine Q7.out.mono ?_
        rintro e w9 ⟨A6, c6, zs, rfl, hz, he, hb⟩
        replace HB := hide (Bel.then HB.out hb)
        replace HX := hide (HX.out.kept hb)
        have HZ := hide hz
        have HF : Hid (sndL zs = sortedF (sndL ps)) := he.trans (sorted_same.2 (show (sndL os).Perm (sndL ps) from by rw [HE.out]; exact sortedF_perm _))
        clear hb hz he Q7
        have QT := hide (List_c A6 X 0 c6 0 cx zs os w9 HZ.out HX.out (fun p hp => (HSm.out p.2 (by rw [← HF.out]; exact List.mem_map.2 ⟨p, hp, rfl⟩)).1) (fun p hp => (HSm.out p.2 (by rw [← HE.out]; exact List.mem_map.2 ⟨p, hp, rfl⟩)).1))
        go_wp2_with fail
        refine QT.out.mono ?_
        rintro e w10 ⟨q, rfl, hq, hb⟩
        obtain rfl : q = true := hq.2 (HF.out.trans HE.out.symm)
        replace HB := hide (Bel.then HB.out hb)
        clear hb hq QT
        go_wp2_with fail
        go_ret
        exact ⟨rfl, HB.out⟩
      · have h0i : (0 : Int) < n := by omega
        obtain ⟨kk, hkl, hk1, hk2, hk3⟩ := turn_k turn n (by omega)
        have x1 : IntKind.i64.wrap (Int.tmod turn n) = Int.tmod turn n := IntWalk.i64_in _ (by omega)
        have x2 : IntKind.i64.wrap (Int.tmod turn n + n) = Int.tmod turn n + n := IntWalk.i64_in _ (by omega)
        have x3 : IntKind.i64.wrap (kk : Int) = (kk : Int) := IntWalk.i64_in _ (by omega)
        have x4 : ((n : Int) == 0) = false := by rw [beq_eq_false_iff_ne]; omega
        have hkn : kk ≤ n := by omega
        have hcx := HP.out.sl.cap
        have hfr := fun W => front_run (A := A) (n := n) (c := c) (k := kk) (by omega) W
        have hbk := fun W => back_run (A := A) (n := n) (c := c) (j := kk) hkn W
        have HF := hide (hs_front (HP.out.kept HB.out) hkn)
        have HD := hide (hs_back (HP.out.kept HB.out) hkn)
        have hl1 : (ps.take kk).length = kk := by rw [List.length_take]; omega
        have hl2 : (ps.drop kk).length = n - kk := by rw [List.length_drop]; omega
        have HPerm : Hid ((sndL (ps.drop kk ++ ps.take kk)).Perm (sndL ps)) := by
          show List.Perm _ _
          unfold sndL
          exact (List.perm_append_comm.trans (by rw [List.take_append_drop])).map _
        have HMem : Hid (∀ p ∈ ps.drop kk ++ ps.take kk, p ∈ ps) := fun p hp => by
          rcases List.mem_append.1 hp with hp | hp
          · exact List.mem_of_mem_drop hp
          · exact List.mem_of_mem_take hp
        have hlt2 : (ps.drop kk ++ ps.take kk).length = n := by rw [List.length_append]; omega
        generalize ps.take kk = L1 at *
        generalize ps.drop kk = L2 at *
        generalize fstA c A = X1 at *
        generalize sndA c kk A = X2 at *
        obtain ⟨m2, hm2⟩ : ∃ m2, n - kk = m2 := ⟨_, rfl⟩
        rw [hm2] at hbk HD hl2
        generalize c - kk = c2 at *
        go_upto_region 10 with (fail)
        refine wp_region_held_drew (S := fun w' => Below wr.heap.size wr w') (by kernel_rfl) ((Below.refl wr.heap.size wr).drew) (fun hHeld => ?_)
        first | (refine wpAnyH_take (i := 1) (v := ?_) nth1 (by kernel_rfl) (by kernel_rfl) (by kernel_rfl) (fun _ _ _ h => h) (Or.inl ⟨by rfl, ?_⟩) hHeld ?_; rotate_left; focus (intro wS hSw; go_simp; try with_reducible rfl; done)) | fail
        (try simp only [Act.put]); (try simp only [List.setIfInBounds_toArray]); (try simp only [List.set_cons_succ]); (try simp only [List.set_cons_zero])
        first | (refine wpAnyH_take (i := 2) (v := ?_) nth2 (by kernel_rfl) (by kernel_rfl) (by kernel_rfl) (fun _ _ _ h => h) (Or.inl ⟨by rfl, ?_⟩) hHeld ?_; rotate_left; focus (intro wS hSw; go_simp; try with_reducible rfl; done)) | fail
        (try simp only [Act.put]); (try simp only [List.setIfInBounds_toArray]); (try simp only [List.set_cons_succ]); (try simp only [List.set_cons_zero])
        first | (refine wpAnyH_take (i := 5) (v := ?_) nth5 (by kernel_rfl) (by kernel_rfl) (by kernel_rfl) (fun _ _ _ h => h) (Or.inl ⟨by rfl, ?_⟩) hHeld ?_; rotate_left; focus (intro wS hSw; go_simp; try with_reducible rfl; done)) | fail
        (try simp only [Act.put]); (try simp only [List.setIfInBounds_toArray]); (try simp only [List.set_cons_succ]); (try simp only [List.set_cons_zero])
        first | (refine wpAnyH_take (i := 6) (v := ?_) nth6 (by kernel_rfl) (by kernel_rfl) (by kernel_rfl) (fun _ _ _ h => h) (Or.inl ⟨by rfl, ?_⟩) hHeld ?_; rotate_left; focus (intro wS hSw; go_simp; try with_reducible rfl; done)) | fail
        (try simp only [Act.put]); (try simp only [List.setIfInBounds_toArray]); (try simp only [List.set_cons_succ]); (try simp only [List.set_cons_zero])
        first | (refine wpAnyH_take (i := 3) (v := ?_) nth3 (by kernel_rfl) (by kernel_rfl) (by kernel_rfl) (fun _ _ _ h => h) (Or.inl ⟨by rfl, ?_⟩) hHeld ?_; rotate_left; focus (intro wS hSw; go_simp; try with_reducible rfl; done)) | fail
        (try simp only [Act.put]); (try simp only [List.setIfInBounds_toArray]); (try simp only [List.set_cons_succ]); (try simp only [List.set_cons_zero])
        first | (refine wpAnyH_take (i := 7) (v := ?_) nth7 (by kernel_rfl) (by kernel_rfl) (by kernel_rfl) (fun _ _ _ h => h) (Or.inl ⟨by rfl, ?_⟩) hHeld ?_; rotate_left; focus (intro wS hSw; go_simp; try with_reducible rfl; done)) | fail
        (try simp only [Act.put]); (try simp only [List.setIfInBounds_toArray]); (try simp only [List.set_cons_succ]); (try simp only [List.set_cons_zero])
        have HO0 := hide (World.ownsRow_lit (base := wr.heap.size) (e := 26) (size := 1) wr.drew #[] 0 (Nat.le_refl _) (by simp [maxLen]) rfl)
        refine wpAnyH_ready (rs := [0]) (by kernel_rfl) (by simp) ?_
        refine AllReadyH.cons nth0 (fun K hK => ?_) AllReadyH.nil
        go_simp
        refine hK.out _ _ (Bel.alloc hHeld _) (fun hHeld => ?_)
        clear hK K
        (try simp only [Act.put]); (try simp only [List.setIfInBounds_toArray]); (try simp only [List.set_cons_succ]); (try simp only [List.set_cons_zero])
        refine wpAnyH_ready (rs := [4]) (by kernel_rfl) (by simp) ?_
        refine AllReadyH.cons nth4 (fun K hK => ?_) AllReadyH.nil
        refine step_app rfl (.tmp 41) (.tmp 44) 22 rfl wr.heap.size 26 i0 _ 1 24 Tryd.underlying22 hi0 hz0 hz1 hz2 rfl (by omega) _ 0 [] rfl HO0.out _ X2 m2 c2 (L2.map hdV) rfl (by rw [List.length_map, hl2, Nat.mul_one]) (by have := (HD.out.kept hHeld).sl.recs.2; rw [hdC_flat] at this; exact this) (hd_one _) (by unfold maxLen; omega) (by omega) hHeld.size HD.out.sl.nil ?_
        intro v1 w1 hown hgr _
        have HN := hide (show OwnH wr.heap.size w1 v1 L2 from by unfold OwnH; rw [hl2]; rw [Nat.zero_add, List.nil_append] at hown; exact hown)
        have hs1 := own_grown hHeld hgr (by intro q hq; have hk2 : wr.heap.size = q := Option.some.inj hq; omega)
        clear hHeld hown hgr HO0
        refine hK.out _ _ hs1 (fun hHeld => ?_)
        clear hK K hs1
        (try simp only [Act.put]); (try simp only [List.setIfInBounds_toArray]); (try simp only [List.set_cons_succ]); (try simp only [List.set_cons_zero])
        refine wpAnyH_ready (rs := [8]) (by kernel_rfl) (by simp) ?_
        refine AllReadyH.cons nth8 (fun K hK => ?_) AllReadyH.nil
        refine step_app rfl (.tmp 45) (.tmp 48) 22 rfl wr.heap.size 26 i0 _ 1 24 Tryd.underlying22 hi0 hz0 hz1 hz2 rfl (by omega) v1 L2.length (L2.map hdV) rfl HN.out _ X1 kk c (L1.map hdV) rfl (by rw [List.length_map, hl1, Nat.mul_one]) (by have := (HF.out.kept hHeld).sl.recs.2; rw [hdC_flat] at this; exact this) (hd_one _) (by unfold maxLen; omega) (by omega) hHeld.size HF.out.sl.nil ?_
        intro v2 w2 hown hgr _
        have HN2 := hide (show OwnH wr.heap.size w2 v2 (L2 ++ L1) from by unfold OwnH; rw [List.length_append, List.map_append, hl1]; exact hown)
        have hs1 := own_grown hHeld hgr HN.out.blk
        clear hHeld hown hgr HN
        refine hK.out _ _ hs1 (fun hHeld => ?_)
        clear hK K hs1
        (try simp only [Act.put]); (try simp only [List.setIfInBounds_toArray]); (try simp only [List.set_cons_succ]); (try simp only [List.set_cons_zero])
        first | (refine wpAnyH_take (i := 9) (v := ?_) nth9 (by kernel_rfl) (by kernel_rfl) (by kernel_rfl) (fun _ _ _ h => h) (Or.inl ⟨by rfl, ?_⟩) hHeld ?_; rotate_left; focus (intro wS hSw; go_simp; try with_reducible rfl; done)) | fail
        (try simp only [Act.put]); (try simp only [List.setIfInBounds_toArray]); (try simp only [List.set_cons_succ]); (try simp only [List.set_cons_zero])
        refine wpAnyH_done (by kernel_rfl) ?_ _
        have HBr := hide hHeld
        clear hHeld HF HD hfr hbk
        obtain ⟨A9, c9, rfl, h9⟩ := HN2.out.hs (Bel.then HB.out HBr.out) (fun p hp => HP.out.each p (HMem.out p hp))
        rw [hlt2] at h9 ⊢
        have H9 := hide h9
        replace HB := hide (Bel.then HB.out HBr.out)
        replace HX := hide (HX.out.kept HBr.out)
        clear h9 HN2 HBr
        have Q6 := hide (fun (W : World) (hW : Below w2.heap.size w2 W) => sortedG_c A9 n c9 (sndL (L2 ++ L1)) W (H9.out.kept hW).nest hn (fun r hr => (HGr.out r (HPerm.out.mem_iff.1 hr)).2))
        have HS6 := hide (sorted_same.2 HPerm.out)
        have QA := hide (awake_c w2 (HW.out.keep HB.out))
        have HB9 := hide (Below.refl w2.heap.size w2)
        go_wp2_with fail
        refine QA.out.mono ?_
        rintro e w3 ⟨rfl, hb⟩
        replace HB := hide (Bel.then HB.out hb)
        replace HX := hide (HX.out.kept hb)
        replace HB9 := hide (Bel.then HB9.out hb)
        clear hb QA
        go_wp2_with fail
        refine (Q4.out _ HB.out).mono ?_
        rintro e w4 ⟨A5, c5, ys, rfl, hy, he, hb⟩
        replace HB := hide (Bel.then HB.out hb)
        replace HX := hide (HX.out.kept hb)
        replace HB9 := hide (Bel.then HB9.out hb)
        have HY := hide hy.hs
        have HF := hide he
        clear hb hy he
        have QT := hide (List_c X A5 n cx n c5 os ys w4 HX.out HY.out (fun p hp => (HSm.out p.2 (by rw [← HE.out]; exact List.mem_map.2 ⟨p, hp, rfl⟩)).1) (fun p hp => (HSm.out p.2 (by rw [← HF.out]; exact List.mem_map.2 ⟨p, hp, rfl⟩)).1))
        go_wp2_with fail
        refine QT.out.mono ?_
        rintro e w5 ⟨q, rfl, hq, hb⟩
        obtain rfl : q = true := hq.2 (HE.out.trans HF.out.symm)
        replace HB := hide (Bel.then HB.out hb)
        replace HX := hide (HX.out.kept hb)
        replace HB9 := hide (Bel.then HB9.out hb)
        clear hb hq QT HY HF
        have QG := hide (bagG_c X A n cx n c (os.map Prod.snd) (ps.map Prod.snd) w5 HX.out.nest (HP.out.kept HB.out).nest hn hn (fun r hr => (HSm.out r (by rw [← HE.out]; exact hr)).2) (fun r hr => (HGr.out r hr).2))
        go_wp2_with fail
        refine QG.out.mono ?_
        rintro e w6 ⟨q, rfl, hq, hb⟩
        obtain rfl : q = true := hq.2 (by have h1 := HE.out; unfold sndL at h1; rw [h1]; exact sortedF_perm _)
        replace HB := hide (Bel.then HB.out hb)
        replace HX := hide (HX.out.kept hb)
        replace HB9 := hide (Bel.then HB9.out hb)
        clear hb hq QG
        go_wp2_with fail
        refine (Q6.out _ HB9.out).mono ?_
        rintro e w7 ⟨A6, c6, zs, rfl, hz, he, hb⟩
        replace HB := hide (Bel.then HB.out hb)
        replace HX := hide (HX.out.kept hb)
        have HZ := hide hz
        have HF := hide (he.trans HS6.out)
        clear hb hz he HB9
        have QT := hide (List_c A6 X n c6 n cx zs os w7 HZ.out HX.out (fun p hp => (HSm.out p.2 (by rw [← HF.out]; exact List.mem_map.2 ⟨p, hp, rfl⟩)).1) (fun p hp => (HSm.out p.2 (by rw [← HE.out]; exact List.mem_map.2 ⟨p, hp, rfl⟩)).1))
        go_wp2_with fail
        refine QT.out.mono ?_
        rintro e w8 ⟨q, rfl, hq, hb⟩
        obtain rfl : q = true := hq.2 (HF.out.trans HE.out.symm)
        replace HB := hide (Bel.then HB.out hb)
        replace HX := hide (HX.out.kept hb)
        clear hb hq QT HZ HF
        have Q7 := hide (sortedG_c X n cx (os.map Prod.snd) w8 HX.out.nest hn (fun r hr => (HSm.out r (by rw [← HE.out]; exact hr)).2))
        go_wp2_with fail
        refine Q7.out.mono ?_
        rintro e w9 ⟨A6, c6, zs, rfl, hz, he, hb⟩
        replace HB := hide (Bel.then HB.out hb)
        replace HX := hide (HX.out.kept hb)
        have HZ := hide hz
        have HF : Hid (sndL zs = sortedF (sndL ps)) := he.trans (sorted_same.2 (show (sndL os).Perm (sndL ps) from by rw [HE.out]; exact sortedF_perm _))
        clear hb hz he Q7
        have QT := hide (List_c A6 X n c6 n cx zs os w9 HZ.out HX.out (fun p hp => (HSm.out p.2 (by rw [← HF.out]; exact List.mem_map.2 ⟨p, hp, rfl⟩)).1) (fun p hp => (HSm.out p.2 (by rw [← HE.out]; exact List.mem_map.2 ⟨p, hp, rfl⟩)).1))
        go_wp2_with fail
        refine QT.out.mono ?_
        rintro e w10 ⟨q, rfl, hq, hb⟩
        obtain rfl : q = true := hq.2 (HF.out.trans HE.out.symm)
        replace HB := hide (Bel.then HB.out hb)
        clear hb hq QT
        go_wp2_with fail
        go_ret
        exact ⟨rfl, HB.out⟩
end Go.Proofs.YtobepbpiagclnaaDoor
