/- The walk of slices.symMergeCmpFunc where the first part is one row. -/
import Derived.Test.YtobepbpiagclnaaDoorSymB
namespace Go.Proofs.YtobepbpiagclnaaDoor
set_option linter.unusedVariables false
open Go.ChangeShapes Go.WideShapes Go.ChangeAt Go.RowKit

def mv1 (P : List RowP) (x : RowP) (V S : List RowP) (k : Nat) : List RowP := (P ++ V.take k) ++ x :: (V.drop k ++ S)
theorem mv1_here (P : List RowP) (x : RowP) (V S : List RowP) {k : Nat} {q : RowP} (hq : V[k]? = some q) : mv1 P x V S k = (P ++ V.take k) ++ x :: ([] ++ q :: (V.drop (k + 1) ++ S)) := by
  unfold mv1
  rw [drop_at hq]
  simp
theorem mv1_next (P : List RowP) (x : RowP) (V S : List RowP) {k : Nat} {q : RowP} (hq : V[k]? = some q) : mv1 P x V S (k + 1) = (P ++ V.take k) ++ q :: ([] ++ x :: (V.drop (k + 1) ++ S)) := by
  unfold mv1
  rw [take_at hq]
  simp
def GivesSym (base g n cap : Nat) (w : World) (P T S : List RowP) (e : Ending) (w' : World) : Prop := e = .returned (.tuple #[]) ∧ ∃ W, W.Perm T ∧ RisesP W ∧ MovR base g n cap w w' (P ++ (W ++ S))
/-- A head in its place. -/
theorem MovR.cellAt {base g n cap : Nat} {w wr : World} {D : List RowP} (h : MovR base g n cap w wr D) {i : Nat} {p : RowP} (hi : D[i]? = some p) : wr.cell? ⟨g, i, none⟩ = some (.slice p.1.A p.1.n p.1.c) ∧ SlAt valCells 3 wr wr.heap.size p.1.A p.1.n p.1.c p.2 ∧ i < n := by
  have hl := (List.getElem?_eq_some_iff.1 hi).1
  have hn := h.at_.len
  exact ⟨(h.at_.cell hi).1, h.at_.each p (List.mem_of_getElem? hi), by omega⟩
theorem at_v (P U V S : List RowP) {i : Nat} {y : RowP} (h : V[i]? = some y) : (P ++ (U ++ (V ++ S)))[P.length + U.length + i]? = some y := by
  have hl := (List.getElem?_eq_some_iff.1 h).1
  rw [List.getElem?_append_right (by omega), List.getElem?_append_right (by omega), List.getElem?_append_left (by omega), show P.length + U.length + i - P.length - U.length = i from by omega]
  exact h
theorem at_u (P U T : List RowP) {i : Nat} {y : RowP} (h : U[i]? = some y) : (P ++ (U ++ T))[P.length + i]? = some y := by
  have hl := (List.getElem?_eq_some_iff.1 h).1
  rw [List.getElem?_append_right (by omega), List.getElem?_append_left (by omega), show P.length + i - P.length = i from by omega]
  exact h
set_option maxRecDepth 100000 in
set_option maxHeartbeats 4000000 in
theorem symOne_c (base g n cap a m b : Nat) (w : World) (P V S : List RowP) (x : RowP) (h : SortR base w g n cap (P ++ ([x] ++ (V ++ S)))) (ha : P.length = a) (hm : a + 1 = m) (hb : m + V.length = b) (hv : 1 ≤ V.length) (hV : RisesP V) (hg : base ≤ g) (hbw : base ≤ w.heap.size) (hn : n ≤ 1048576) :
    Calls Tryd.prog 39 #[.slice (some ⟨g, 0, none⟩) n cap, .int .i64 a, .int .i64 m, .int .i64 b, .func (.func 6) #[] #[]] w (GivesSym base g n cap w P ([x] ++ V) S) := by
  have hl := h.len
  simp only [List.length_append] at hl
  have w1 : IntKind.i64.wrap ((m : Int) - (a : Int)) = 1 := by rw [IntWalk.i64_in _ (by omega)]; omega
  have w2 : ((m : Int) - (a : Int)) = 1 := by omega
  have HM0 : Hid (MovR base g n cap w w (P ++ ([x] ++ (V ++ S)))) := ⟨Below.refl _ _, h⟩
  have hbn : b ≤ n := by simp at hl; omega
  have hmb : m ≤ b := by omega
  clear h hl
  go_enter Tryd.func39, Tryd.ntmps39
  go_wp2_with fail
  go_loopw [10, 11] (fun iv jv wr => ∃ i j : Nat, iv = .int .i64 i ∧ jv = .int .i64 j ∧ m ≤ i ∧ i ≤ j ∧ j ≤ b ∧ Hid (i = m ∨ ∃ y, V[i - m - 1]? = some y ∧ cmpR y.2 x.2 ≤ 0) ∧ Hid (j = b ∨ ∃ y, V[j - m]? = some y ∧ cmpR x.2 y.2 ≤ 0) ∧ Hid (MovR base g n cap w wr (P ++ ([x] ++ (V ++ S))))) (fun iv jv _ => (intOf jv).toNat - (intOf iv).toNat)
  case atStart => exact ⟨m, b, rfl, rfl, Nat.le_refl _, hmb, Nat.le_refl _, .inl rfl, .inl rfl, HM0⟩
  case round =>
    clear HM0
    obtain ⟨i, j, rfl, rfl, hmi, hij, hjb, HI, HJ, HM⟩ := hrel
    by_cases hlt : i < j
    · have hlti : (i : Int) < j := by omega
      obtain ⟨h, hh⟩ : ∃ h, (i + j) / 2 = h := ⟨_, rfl⟩
      have w3 : ((i : Int) + (j : Int)) / 2 = (h : Int) := by omega
      obtain ⟨y, hy⟩ : ∃ y, V[h - m]? = some y := ⟨_, List.getElem?_eq_getElem (by omega)⟩
      obtain ⟨c1, s1, l1⟩ := HM.out.cellAt (i := h) (p := y) (by have := at_v P [x] V S hy; simp only [List.length_cons, List.length_nil, ha] at this; rw [show a + (0 + 1) + (h - m) = h from by omega] at this; exact this)
      obtain ⟨c2, s2, l2⟩ := HM.out.cellAt (i := a) (p := x) (by have := at_u P [x] (V ++ S) (i := 0) (y := x) rfl; rw [ha] at this; exact this)
      have Q := hide (fun (W : World) (hW : Below wr.heap.size wr W) => orders_c y.1.A x.1.A y.1.n y.1.c x.1.n x.1.c y.2 x.2 W (s1.kept hW) (s2.kept hW))
      have l3 : (h : Int) < n := by omega
      have l4 : (a : Int) < n := by omega
      have hwh : IntKind.i64.wrap ((h : Int) + 1) = (h : Int) + 1 := IntWalk.i64_in _ (by omega)
      obtain ⟨z, hz⟩ : ∃ z, cmpR y.2 x.2 = z := ⟨_, rfl⟩
      rw [hz] at Q
      clear s1 s2 l1 l2
      go_wp2_with fail
      refine wp_region_held_drew (S := (fun w' => Below wr.heap.size wr w')) (by kernel_rfl) ((Below.refl _ _).drew) (fun hHeld => ?_)
      first | (refine wpAnyH_take (i := 0) (v := ?_) nth0 (by kernel_rfl) (by kernel_rfl) (by kernel_rfl) (fun _ _ _ h => h) (Or.inl ⟨by rfl, ?_⟩) hHeld ?_; rotate_left; focus (intro wS hSw; (have k0 := kept hSw c1; have k1 := kept hSw c2); go_simp; try with_reducible rfl; done)) | (refine wpAnyH_take (i := 0) (v := undef) nth0 (by kernel_rfl) (by kernel_rfl) (by kernel_rfl) (fun _ _ _ h => h) (Or.inr ⟨by rfl, rfl⟩) hHeld ?_)
      (try simp only [Act.put]); (try simp only [List.setIfInBounds_toArray]); (try simp only [List.set_cons_succ]); (try simp only [List.set_cons_zero])
      first | (refine wpAnyH_take (i := 1) (v := ?_) nth1 (by kernel_rfl) (by kernel_rfl) (by kernel_rfl) (fun _ _ _ h => h) (Or.inl ⟨by rfl, ?_⟩) hHeld ?_; rotate_left; focus (intro wS hSw; (have k0 := kept hSw c1; have k1 := kept hSw c2); go_simp; try with_reducible rfl; done)) | (refine wpAnyH_take (i := 1) (v := undef) nth1 (by kernel_rfl) (by kernel_rfl) (by kernel_rfl) (fun _ _ _ h => h) (Or.inr ⟨by rfl, rfl⟩) hHeld ?_)
      (try simp only [Act.put]); (try simp only [List.setIfInBounds_toArray]); (try simp only [List.set_cons_succ]); (try simp only [List.set_cons_zero])
      first | (refine wpAnyH_take (i := 2) (v := ?_) nth2 (by kernel_rfl) (by kernel_rfl) (by kernel_rfl) (fun _ _ _ h => h) (Or.inl ⟨by rfl, ?_⟩) hHeld ?_; rotate_left; focus (intro wS hSw; (have k0 := kept hSw c1; have k1 := kept hSw c2); go_simp; try with_reducible rfl; done)) | (refine wpAnyH_take (i := 2) (v := undef) nth2 (by kernel_rfl) (by kernel_rfl) (by kernel_rfl) (fun _ _ _ h => h) (Or.inr ⟨by rfl, rfl⟩) hHeld ?_)
      (try simp only [Act.put]); (try simp only [List.setIfInBounds_toArray]); (try simp only [List.set_cons_succ]); (try simp only [List.set_cons_zero])
      first | (refine wpAnyH_take (i := 3) (v := ?_) nth3 (by kernel_rfl) (by kernel_rfl) (by kernel_rfl) (fun _ _ _ h => h) (Or.inl ⟨by rfl, ?_⟩) hHeld ?_; rotate_left; focus (intro wS hSw; (have k0 := kept hSw c1; have k1 := kept hSw c2); go_simp; try with_reducible rfl; done)) | (refine wpAnyH_take (i := 3) (v := undef) nth3 (by kernel_rfl) (by kernel_rfl) (by kernel_rfl) (fun _ _ _ h => h) (Or.inr ⟨by rfl, rfl⟩) hHeld ?_)
      (try simp only [Act.put]); (try simp only [List.setIfInBounds_toArray]); (try simp only [List.set_cons_succ]); (try simp only [List.set_cons_zero])
      first | (refine wpAnyH_take (i := 4) (v := ?_) nth4 (by kernel_rfl) (by kernel_rfl) (by kernel_rfl) (fun _ _ _ h => h) (Or.inl ⟨by rfl, ?_⟩) hHeld ?_; rotate_left; focus (intro wS hSw; (have k0 := kept hSw c1; have k1 := kept hSw c2); go_simp; try with_reducible rfl; done)) | (refine wpAnyH_take (i := 4) (v := undef) nth4 (by kernel_rfl) (by kernel_rfl) (by kernel_rfl) (fun _ _ _ h => h) (Or.inr ⟨by rfl, rfl⟩) hHeld ?_)
      (try simp only [Act.put]); (try simp only [List.setIfInBounds_toArray]); (try simp only [List.set_cons_succ]); (try simp only [List.set_cons_zero])
      first | (refine wpAnyH_take (i := 5) (v := ?_) nth5 (by kernel_rfl) (by kernel_rfl) (by kernel_rfl) (fun _ _ _ h => h) (Or.inl ⟨by rfl, ?_⟩) hHeld ?_; rotate_left; focus (intro wS hSw; (have k0 := kept hSw c1; have k1 := kept hSw c2); go_simp; try with_reducible rfl; done)) | (refine wpAnyH_take (i := 5) (v := undef) nth5 (by kernel_rfl) (by kernel_rfl) (by kernel_rfl) (fun _ _ _ h => h) (Or.inr ⟨by rfl, rfl⟩) hHeld ?_)
      (try simp only [Act.put]); (try simp only [List.setIfInBounds_toArray]); (try simp only [List.set_cons_succ]); (try simp only [List.set_cons_zero])
      first | (refine wpAnyH_take (i := 6) (v := ?_) nth6 (by kernel_rfl) (by kernel_rfl) (by kernel_rfl) (fun _ _ _ h => h) (Or.inl ⟨by rfl, ?_⟩) hHeld ?_; rotate_left; focus (intro wS hSw; (have k0 := kept hSw c1; have k1 := kept hSw c2); go_simp; try with_reducible rfl; done)) | (refine wpAnyH_take (i := 6) (v := undef) nth6 (by kernel_rfl) (by kernel_rfl) (by kernel_rfl) (fun _ _ _ h => h) (Or.inr ⟨by rfl, rfl⟩) hHeld ?_)
      (try simp only [Act.put]); (try simp only [List.setIfInBounds_toArray]); (try simp only [List.set_cons_succ]); (try simp only [List.set_cons_zero])
      first | (refine wpAnyH_take (i := 7) (v := ?_) nth7 (by kernel_rfl) (by kernel_rfl) (by kernel_rfl) (fun _ _ _ h => h) (Or.inl ⟨by rfl, ?_⟩) hHeld ?_; rotate_left; focus (intro wS hSw; (have k0 := kept hSw c1; have k1 := kept hSw c2); go_simp; try with_reducible rfl; done)) | (refine wpAnyH_take (i := 7) (v := undef) nth7 (by kernel_rfl) (by kernel_rfl) (by kernel_rfl) (fun _ _ _ h => h) (Or.inr ⟨by rfl, rfl⟩) hHeld ?_)
      (try simp only [Act.put]); (try simp only [List.setIfInBounds_toArray]); (try simp only [List.set_cons_succ]); (try simp only [List.set_cons_zero])
      first | (refine wpAnyH_take (i := 8) (v := ?_) nth8 (by kernel_rfl) (by kernel_rfl) (by kernel_rfl) (fun _ _ _ h => h) (Or.inl ⟨by rfl, ?_⟩) hHeld ?_; rotate_left; focus (intro wS hSw; (have k0 := kept hSw c1; have k1 := kept hSw c2); go_simp; try with_reducible rfl; done)) | (refine wpAnyH_take (i := 8) (v := undef) nth8 (by kernel_rfl) (by kernel_rfl) (by kernel_rfl) (fun _ _ _ h => h) (Or.inr ⟨by rfl, rfl⟩) hHeld ?_)
      (try simp only [Act.put]); (try simp only [List.setIfInBounds_toArray]); (try simp only [List.set_cons_succ]); (try simp only [List.set_cons_zero])
      refine wpAnyH_ready (rs := [9]) (by kernel_rfl) (by simp) ?_
      refine AllReadyH.cons nth9 (fun K hK => ?_) AllReadyH.nil
      go_simp
      (go_at_call 6; refine (Q.out _ hHeld).mono ?_; rintro e w' ⟨rfl, hb⟩)
      refine hK.out _ _ (Bel.then hHeld hb) (fun hHeld => ?_)
      clear hK K
      (try simp only [Act.put]); (try simp only [List.setIfInBounds_toArray]); (try simp only [List.set_cons_succ]); (try simp only [List.set_cons_zero])
      first | (refine wpAnyH_take (i := 10) (v := ?_) nth10 (by kernel_rfl) (by kernel_rfl) (by kernel_rfl) (fun _ _ _ h => h) (Or.inl ⟨by rfl, ?_⟩) hHeld ?_; rotate_left; focus (intro wS hSw; (have k0 := kept hSw c1; have k1 := kept hSw c2); go_simp; try with_reducible rfl; done)) | (refine wpAnyH_take (i := 10) (v := undef) nth10 (by kernel_rfl) (by kernel_rfl) (by kernel_rfl) (fun _ _ _ h => h) (Or.inr ⟨by rfl, rfl⟩) hHeld ?_)
      (try simp only [Act.put]); (try simp only [List.setIfInBounds_toArray]); (try simp only [List.set_cons_succ]); (try simp only [List.set_cons_zero])
      refine wpAnyH_done (by kernel_rfl) ?_ _
      replace HM := hide (HM.out.kept (HM.out.low hbw) hHeld)
      clear hHeld c1 c2 Q
      by_cases hz0 : z < 0
      · have HI2 : Hid (h + 1 = m ∨ ∃ y, V[h + 1 - m - 1]? = some y ∧ cmpR y.2 x.2 ≤ 0) := .inr ⟨y, by rw [show h + 1 - m - 1 = h - m from by omega]; exact hy, by omega⟩
        clear hz hy HI
        go_wp2_with fail
        go_roundw
        case rel => exact ⟨h + 1, j, by go_num, rfl, by omega, by omega, hjb, HI2, HJ, HM⟩
        case measure => simp [intOf]; omega
      · have HJ2 : Hid (h = b ∨ ∃ y, V[h - m]? = some y ∧ cmpR x.2 y.2 ≤ 0) := .inr ⟨y, hy, by have := cmpR_neg y.2 x.2; omega⟩
        clear hz hy HJ
        go_wp2_with fail
        go_roundw
        case rel => exact ⟨i, h, rfl, rfl, hmi, by omega, by omega, HI, HJ2, HM⟩
        case measure => simp [intOf]; omega
    · have hlti : ¬ (i : Int) < j := by omega
      obtain rfl : i = j := by omega
      obtain ⟨t, ht⟩ : ∃ t, i - m = t := ⟨_, rfl⟩
      have e1 : i = m → t = 0 := by omega
      have e2 : i = b → V.length ≤ t := by omega
      have hR : RisesP (V.take t ++ x :: V.drop t) ∧ (V.take t ++ x :: V.drop t).Perm (x :: V) := by
        have hI := HI.out
        have hJ := HJ.out
        rw [ht] at hI hJ
        exact one_in (i := t) hV (hI.elim (fun e => .inl (e1 e)) .inr) (hJ.elim (fun e => .inl (e2 e)) .inr)
      have HR := hide hR
      obtain ⟨i1, hi1⟩ : ∃ i1, i - 1 = i1 := ⟨_, rfl⟩
      have w3 : IntKind.i64.wrap ((i : Int) - 1) = (i1 : Int) := by rw [IntWalk.i64_in _ (by omega)]; omega
      have w4 : ((i : Int) - 1) = (i1 : Int) := by omega
      have hi1a : i1 = a + t := by omega
      have HM1 : Hid (MovR base g n cap w wr (mv1 P x V S 0)) := by
        have := HM.out
        show MovR _ _ _ _ _ _ _
        simpa [mv1] using this
      have htv : t ≤ V.length := by omega
      have hati : a + t + 1 ≤ n := by omega
      replace hi1a := hi1a.symm
      clear hR e1 e2 HI HJ HM ht hi1
      go_wp2_with fail
      go_loopw [13] (fun v wr => ∃ k : Nat, k ≤ t ∧ v = .int .i64 ((a + k : Nat) : Int) ∧ Hid (MovR base g n cap w wr (mv1 P x V S k))) (fun v _ => a + t - (intOf v).toNat)
      case atStart => exact ⟨0, Nat.zero_le _, rfl, HM1⟩
      case round =>
        clear HM1
        obtain ⟨k, hk, rfl, HM⟩ := hrel
        by_cases hkt : k < t
        · obtain ⟨q, hq⟩ : ∃ q, V[k]? = some q := ⟨_, List.getElem?_eq_getElem (by omega)⟩
          have hh := HM.out
          rw [mv1_here P x V S hq] at hh
          have HN := hide (mv1_next P x V S hq)
          have hL : a + k = (P ++ V.take k).length := by rw [List.length_append, List.length_take]; omega
          have hM : a + k + 1 = (P ++ V.take k).length + 1 + ([] : List RowP).length := by rw [← hL]; rfl
          obtain ⟨c1, c2, z1, z2, hbn2⟩ := hh.cells hL hM
          have HS := hide ((hh.kept (hh.low hbw) (Below.refl wr.heap.size wr).drew).swap' hg hL hM)
          rw [← HN.out] at HS
          have hlt2 : ((a + k : Nat) : Int) < (i1 : Int) := by omega
          have l1 : ((a + k : Nat) : Int) < n := by omega
          have l2 : ((a + k + 1 : Nat) : Int) < n := by omega
          have l3 : (0 : Int) ≤ ((a + k : Nat) : Int) := by omega
          have l4 : (0 : Int) ≤ ((a + k + 1 : Nat) : Int) := by omega
          have n1 : a + k ≠ a + k + 1 := by omega
          have n2 : a + k + 1 ≠ a + k := by omega
          have w5 : IntKind.i64.wrap (((a + k : Nat) : Int) + 1) = ((a + k + 1 : Nat) : Int) := by rw [IntWalk.i64_in _ (by omega)]; omega
          have w6 : ((a + k : Nat) : Int) + 1 = ((a + k + 1 : Nat) : Int) := by omega
          have w7 : IntKind.i64.wrap ((a + k + 1 : Nat) : Int) = ((a + k + 1 : Nat) : Int) := IntWalk.i64_in _ (by omega)
          have hms : a + t - (a + k + 1) < a + t - (a + k) := by omega
          clear hL hM hh HN HM hq
          generalize hk1 : a + k + 1 = k1 at *
          generalize hk0 : a + k = k0 at *
          unfold headV at c1 c2 HS
          go_wp2_with fail
          go_region
          go_wp2_with fail
          go_roundw
          case rel => exact ⟨k + 1, by omega, by rw [show k1 = a + (k + 1) from by omega], HS⟩
          case measure => simp [intOf]; omega
        · obtain rfl : k = t := by omega
          have hlt2 : ¬ ((a + k : Nat) : Int) < (i1 : Int) := by omega
          have HE : Hid (MovR base g n cap w wr (P ++ ((V.take k ++ x :: V.drop k) ++ S))) := by
            have := HM.out
            show MovR _ _ _ _ _ _ _
            simpa [mv1] using this
          clear HM
          go_wp2_with fail
          go_end0
          exact ⟨rfl, _, HR.out.2, HR.out.1, HE.out⟩
end Go.Proofs.YtobepbpiagclnaaDoor
