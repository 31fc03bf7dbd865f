/- The contract of sorter.sorted. -/
import Derived.Test.YtahdkfenpflahaaSoF
namespace Go.Proofs.Ytahdkfenpflahaa
set_option linter.unusedVariables false
open Go.ChangeShapes Go.WideShapes Go.ChangeAt Go.RowKit

/-- Sorting by halves. -/
def sortN {α : Type} (lt : α → α → Bool) : Nat → List α → List α
  | 0, l => l
  | f + 1, l => if l.length < 2 then l else mergeL lt (sortN lt f (l.take (l.length / 2))) (sortN lt f (l.drop (l.length / 2)))
theorem sortN_perm {α : Type} (lt : α → α → Bool) : ∀ (f : Nat) (l : List α), (sortN lt f l).Perm l
  | 0, l => List.Perm.refl _
  | f + 1, l => by
    rw [sortN]
    split
    · exact List.Perm.refl _
    · refine (mergeL_perm lt _ _).trans ?_
      have h := (sortN_perm lt f (l.take (l.length / 2))).append (sortN_perm lt f (l.drop (l.length / 2)))
      rwa [List.take_append_drop] at h
theorem sortN_len {α : Type} (lt : α → α → Bool) (f : Nat) (l : List α) : (sortN lt f l).length = l.length := (sortN_perm lt f l).length_eq
theorem mergeL_map {α β : Type} {lt : α → α → Bool} {lu : β → β → Bool} (g : α → β) (h : ∀ a b, lt a b = lu (g a) (g b)) : ∀ l r : List α, (mergeL lt l r).map g = mergeL lu (l.map g) (r.map g)
  | [], r => by rw [mergeL, List.map_nil, mergeL]
  | a :: l, [] => by rw [mergeL_nil, List.map_nil, mergeL_nil]
  | a :: l, b :: r => by
    rw [List.map_cons, List.map_cons]
    cases hx : lt b a with
    | true => rw [mergeL_right hx, mergeL_right (by rw [← h]; exact hx), List.map_cons, mergeL_map g h (a :: l) r, List.map_cons]
    | false => rw [mergeL_left hx, mergeL_left (by rw [← h]; exact hx), List.map_cons, mergeL_map g h l (b :: r), List.map_cons]
theorem sortN_map {α β : Type} {lt : α → α → Bool} {lu : β → β → Bool} (g : α → β) (h : ∀ a b, lt a b = lu (g a) (g b)) : ∀ (f : Nat) (l : List α), (sortN lt f l).map g = sortN lu f (l.map g)
  | 0, l => rfl
  | f + 1, l => by
    rw [sortN, sortN, List.length_map]
    split
    · rfl
    · rw [mergeL_map g h, sortN_map g h f, sortN_map g h f, List.map_take, List.map_drop]
set_option maxRecDepth 100000 in
set_option maxHeartbeats 2000000 in
theorem sortedN_c (A3 : Option Addr) (n3 c3 gk : Nat) (ks : List (Int × Bool)) : ∀ (f : Nat) (ps : List HRow) (A : Option Addr) (n c : Nat) (w : World), ps.length ≤ f → HsAt w A n c ps → ByBox w gk A3 n3 c3 → KeysAt w w.heap.size A3 n3 c3 ks → n ≤ 1048576 →
    Calls Try.prog 29 #[.slice A n c, .func (.func 42) #[] #[.pointer (some ⟨gk, 0, none⟩)]] w fun e w' => ∃ A4 c4, e = .returned (.slice A4 n c4) ∧ HsAt w' A4 n c4 (sortN (ltK ks) f ps) ∧ Below w.heap.size w w' := by
  intro f
  induction f with
  | zero =>
    intro ps A n c w hf h _ _ hn
    have h0 : n < 2 := by have := h.sl.len; omega
    have h0i : (n : Int) < 2 := by omega
    have H := hide h
    clear h
    go_enter Try.func29, Try.ntmps29
    go_wp2_with fail
    go_ret
    exact ⟨A, c, rfl, H.out, Below.refl _ _⟩
  | succ f ih =>
    intro ps A n c w hf h hg hk hn
    have hl := h.sl.len
    have hc := h.sl.cap
    by_cases h0 : n < 2
    · have h0i : (n : Int) < 2 := by omega
      have H : Hid (HsAt w A n c (sortN (ltK ks) (f + 1) ps)) := by show HsAt _ _ _ _ _; rw [sortN, if_pos (by omega)]; exact h
      clear h hg hk ih hl
      go_enter Try.func29, Try.ntmps29
      go_wp2_with fail
      go_ret
      exact ⟨A, c, rfl, H.out, Below.refl _ _⟩
    · have h0i : ¬ (n : Int) < 2 := by omega
      obtain ⟨m, hm⟩ : ∃ m, n / 2 = m := ⟨_, rfl⟩
      have hq1 : Int.tdiv (n : Int) 2 = (m : Int) := by rw [Int.tdiv_eq_ediv_of_nonneg (by omega)]; omega
      have hq2 : IntKind.i64.wrap (m : Int) = (m : Int) := IntWalk.i64_in _ (by omega)
      have hm1 : m ≤ n := by omega
      have hE : sortN (ltK ks) (f + 1) ps = mergeL (ltK ks) (sortN (ltK ks) f (ps.take m)) (sortN (ltK ks) f (ps.drop m)) := by rw [sortN, if_neg (by omega), hl, hm]
      rw [hE]
      have I1 := hide (fun (W : World) (hW : Below w.heap.size w W) => ih (ps.take m) (fstA c A) m c W (by rw [List.length_take]; omega) (hs_front (h.kept hW) hm1) (hg.kept hW) (hk.kept hW) (by omega))
      have I2 := hide (fun (W : World) (hW : Below w.heap.size w W) => ih (ps.drop m) (sndA c m A) (n - m) (c - m) W (by rw [List.length_drop]; omega) (hs_back (h.kept hW) hm1) (hg.kept hW) (hk.kept hW) (by omega))
      have QB := hide (fun (B1 B2 : Option Addr) (e1 e2 : Nat) (W : World) (hW : Below w.heap.size w W) (s1 : HsAt W B1 m e1 (sortN (ltK ks) f (ps.take m))) (s2 : HsAt W B2 (n - m) e2 (sortN (ltK ks) f (ps.drop m))) => both_c B1 B2 A3 m e1 (n - m) e2 n3 c3 gk _ _ ks W s1 s2 (hg.kept hW) (hk.kept hW) (by omega))
      rw [show m + (n - m) = n from by omega] at QB
      have hf1 := fun W => front_run (A := A) (n := n) (c := c) (k := m) (by omega) W
      have hf2 := fun W => back_run (A := A) (n := n) (c := c) (j := m) hm1 W
      generalize sortN (ltK ks) f (ps.take m) = L1 at *
      generalize sortN (ltK ks) f (ps.drop m) = L2 at *
      generalize mergeL (ltK ks) L1 L2 = L3 at *
      generalize fstA c A = B1 at *
      generalize sndA c m A = B2 at *
      generalize n - m = n2 at *
      generalize c - m = c2 at *
      clear h hg hk ih hE hl hm
      go_enter Try.func29, Try.ntmps29
      go_upto_region 4 with (fail)
      refine wp_region_held_drew (S := (fun w' => Below w.heap.size w w')) (by kernel_rfl) ((Below.refl w.heap.size w).drew) (fun hHeld => ?_)
      first | (refine wpAnyH_take (i := 0) (v := ?_) nth0 (by kernel_rfl) (by kernel_rfl) (by kernel_rfl) (fun _ _ _ h => h) (Or.inl ⟨by rfl, ?_⟩) hHeld ?_; rotate_left; focus (intro wS hSw; go_simp; try with_reducible rfl; done)) | (refine wpAnyH_take (i := 0) (v := undef) nth0 (by kernel_rfl) (by kernel_rfl) (by kernel_rfl) (fun _ _ _ h => h) (Or.inr ⟨by rfl, rfl⟩) hHeld ?_)
      (try simp only [Act.put]); (try simp only [List.setIfInBounds_toArray]); (try simp only [List.set_cons_succ]); (try simp only [List.set_cons_zero])
      first | (refine wpAnyH_take (i := 1) (v := ?_) nth1 (by kernel_rfl) (by kernel_rfl) (by kernel_rfl) (fun _ _ _ h => h) (Or.inl ⟨by rfl, ?_⟩) hHeld ?_; rotate_left; focus (intro wS hSw; go_simp; try with_reducible rfl; done)) | (refine wpAnyH_take (i := 1) (v := undef) nth1 (by kernel_rfl) (by kernel_rfl) (by kernel_rfl) (fun _ _ _ h => h) (Or.inr ⟨by rfl, rfl⟩) hHeld ?_)
      (try simp only [Act.put]); (try simp only [List.setIfInBounds_toArray]); (try simp only [List.set_cons_succ]); (try simp only [List.set_cons_zero])
      first | (refine wpAnyH_take (i := 2) (v := ?_) nth2 (by kernel_rfl) (by kernel_rfl) (by kernel_rfl) (fun _ _ _ h => h) (Or.inl ⟨by rfl, ?_⟩) hHeld ?_; rotate_left; focus (intro wS hSw; go_simp; try with_reducible rfl; done)) | (refine wpAnyH_take (i := 2) (v := undef) nth2 (by kernel_rfl) (by kernel_rfl) (by kernel_rfl) (fun _ _ _ h => h) (Or.inr ⟨by rfl, rfl⟩) hHeld ?_)
      (try simp only [Act.put]); (try simp only [List.setIfInBounds_toArray]); (try simp only [List.set_cons_succ]); (try simp only [List.set_cons_zero])
      first | (refine wpAnyH_take (i := 3) (v := ?_) nth3 (by kernel_rfl) (by kernel_rfl) (by kernel_rfl) (fun _ _ _ h => h) (Or.inl ⟨by rfl, ?_⟩) hHeld ?_; rotate_left; focus (intro wS hSw; go_simp; try with_reducible rfl; done)) | (refine wpAnyH_take (i := 3) (v := undef) nth3 (by kernel_rfl) (by kernel_rfl) (by kernel_rfl) (fun _ _ _ h => h) (Or.inr ⟨by rfl, rfl⟩) hHeld ?_)
      (try simp only [Act.put]); (try simp only [List.setIfInBounds_toArray]); (try simp only [List.set_cons_succ]); (try simp only [List.set_cons_zero])
      first | (refine wpAnyH_take (i := 5) (v := ?_) nth5 (by kernel_rfl) (by kernel_rfl) (by kernel_rfl) (fun _ _ _ h => h) (Or.inl ⟨by rfl, ?_⟩) hHeld ?_; rotate_left; focus (intro wS hSw; go_simp; try with_reducible rfl; done)) | (refine wpAnyH_take (i := 5) (v := undef) nth5 (by kernel_rfl) (by kernel_rfl) (by kernel_rfl) (fun _ _ _ h => h) (Or.inr ⟨by rfl, rfl⟩) hHeld ?_)
      (try simp only [Act.put]); (try simp only [List.setIfInBounds_toArray]); (try simp only [List.set_cons_succ]); (try simp only [List.set_cons_zero])
      first | (refine wpAnyH_take (i := 6) (v := ?_) nth6 (by kernel_rfl) (by kernel_rfl) (by kernel_rfl) (fun _ _ _ h => h) (Or.inl ⟨by rfl, ?_⟩) hHeld ?_; rotate_left; focus (intro wS hSw; go_simp; try with_reducible rfl; done)) | (refine wpAnyH_take (i := 6) (v := undef) nth6 (by kernel_rfl) (by kernel_rfl) (by kernel_rfl) (fun _ _ _ h => h) (Or.inr ⟨by rfl, rfl⟩) hHeld ?_)
      (try simp only [Act.put]); (try simp only [List.setIfInBounds_toArray]); (try simp only [List.set_cons_succ]); (try simp only [List.set_cons_zero])
      first | (refine wpAnyH_take (i := 7) (v := ?_) nth7 (by kernel_rfl) (by kernel_rfl) (by kernel_rfl) (fun _ _ _ h => h) (Or.inl ⟨by rfl, ?_⟩) hHeld ?_; rotate_left; focus (intro wS hSw; go_simp; try with_reducible rfl; done)) | (refine wpAnyH_take (i := 7) (v := undef) nth7 (by kernel_rfl) (by kernel_rfl) (by kernel_rfl) (fun _ _ _ h => h) (Or.inr ⟨by rfl, rfl⟩) hHeld ?_)
      (try simp only [Act.put]); (try simp only [List.setIfInBounds_toArray]); (try simp only [List.set_cons_succ]); (try simp only [List.set_cons_zero])
      first | (refine wpAnyH_take (i := 8) (v := ?_) nth8 (by kernel_rfl) (by kernel_rfl) (by kernel_rfl) (fun _ _ _ h => h) (Or.inl ⟨by rfl, ?_⟩) hHeld ?_; rotate_left; focus (intro wS hSw; go_simp; try with_reducible rfl; done)) | (refine wpAnyH_take (i := 8) (v := undef) nth8 (by kernel_rfl) (by kernel_rfl) (by kernel_rfl) (fun _ _ _ h => h) (Or.inr ⟨by rfl, rfl⟩) hHeld ?_)
      (try simp only [Act.put]); (try simp only [List.setIfInBounds_toArray]); (try simp only [List.set_cons_succ]); (try simp only [List.set_cons_zero])
      first | (refine wpAnyH_take (i := 10) (v := ?_) nth10 (by kernel_rfl) (by kernel_rfl) (by kernel_rfl) (fun _ _ _ h => h) (Or.inl ⟨by rfl, ?_⟩) hHeld ?_; rotate_left; focus (intro wS hSw; go_simp; try with_reducible rfl; done)) | (refine wpAnyH_take (i := 10) (v := undef) nth10 (by kernel_rfl) (by kernel_rfl) (by kernel_rfl) (fun _ _ _ h => h) (Or.inr ⟨by rfl, rfl⟩) hHeld ?_)
      (try simp only [Act.put]); (try simp only [List.setIfInBounds_toArray]); (try simp only [List.set_cons_succ]); (try simp only [List.set_cons_zero])
      refine wpAnyH_ready (rs := [4]) (by kernel_rfl) (by simp) ?_
      refine AllReadyH.cons nth4 (fun K hK => ?_) AllReadyH.nil
      go_simp
      (first | (go_at_call 29; with_reducible refine (I1.out _ hHeld).mono ?_; rintro e w' ⟨A4, c4, rfl, hS, hb⟩; have R1 := hide hS; clear hS) | (go_at_call 29; with_reducible refine (I2.out _ hHeld).mono ?_; rintro e w' ⟨A5, c5, rfl, hS, hb⟩; have R2 := hide hS; replace R1 := hide (R1.out.kept hb); clear hS) | (go_at_call 41; with_reducible refine (QB.out _ _ _ _ _ hHeld R1.out R2.out).mono ?_; rintro e w' ⟨A6, c6, rfl, hS, hb⟩; have R3 := hide hS; clear hS))
      refine hK.out _ _ (Bel.then hHeld hb) (fun hHeld => ?_)
      clear hK K
      (try simp only [Act.put]); (try simp only [List.setIfInBounds_toArray]); (try simp only [List.set_cons_succ]); (try simp only [List.set_cons_zero])
      refine wpAnyH_ready (rs := [9]) (by kernel_rfl) (by simp) ?_
      refine AllReadyH.cons nth9 (fun K hK => ?_) AllReadyH.nil
      go_simp
      (first | (go_at_call 29; with_reducible refine (I1.out _ hHeld).mono ?_; rintro e w' ⟨A4, c4, rfl, hS, hb⟩; have R1 := hide hS; clear hS) | (go_at_call 29; with_reducible refine (I2.out _ hHeld).mono ?_; rintro e w' ⟨A5, c5, rfl, hS, hb⟩; have R2 := hide hS; replace R1 := hide (R1.out.kept hb); clear hS) | (go_at_call 41; with_reducible refine (QB.out _ _ _ _ _ hHeld R1.out R2.out).mono ?_; rintro e w' ⟨A6, c6, rfl, hS, hb⟩; have R3 := hide hS; clear hS))
      refine hK.out _ _ (Bel.then hHeld hb) (fun hHeld => ?_)
      clear hK K
      (try simp only [Act.put]); (try simp only [List.setIfInBounds_toArray]); (try simp only [List.set_cons_succ]); (try simp only [List.set_cons_zero])
      refine wpAnyH_ready (rs := [11]) (by kernel_rfl) (by simp) ?_
      refine AllReadyH.cons nth11 (fun K hK => ?_) AllReadyH.nil
      go_simp
      (first | (go_at_call 29; with_reducible refine (I1.out _ hHeld).mono ?_; rintro e w' ⟨A4, c4, rfl, hS, hb⟩; have R1 := hide hS; clear hS) | (go_at_call 29; with_reducible refine (I2.out _ hHeld).mono ?_; rintro e w' ⟨A5, c5, rfl, hS, hb⟩; have R2 := hide hS; replace R1 := hide (R1.out.kept hb); clear hS) | (go_at_call 41; with_reducible refine (QB.out _ _ _ _ _ hHeld R1.out R2.out).mono ?_; rintro e w' ⟨A6, c6, rfl, hS, hb⟩; have R3 := hide hS; clear hS))
      refine hK.out _ _ (Bel.then hHeld hb) (fun hHeld => ?_)
      clear hK K
      (try simp only [Act.put]); (try simp only [List.setIfInBounds_toArray]); (try simp only [List.set_cons_succ]); (try simp only [List.set_cons_zero])
      first | (refine wpAnyH_take (i := 12) (v := ?_) nth12 (by kernel_rfl) (by kernel_rfl) (by kernel_rfl) (fun _ _ _ h => h) (Or.inl ⟨by rfl, ?_⟩) hHeld ?_; rotate_left; focus (intro wS hSw; go_simp; try with_reducible rfl; done)) | (refine wpAnyH_take (i := 12) (v := undef) nth12 (by kernel_rfl) (by kernel_rfl) (by kernel_rfl) (fun _ _ _ h => h) (Or.inr ⟨by rfl, rfl⟩) hHeld ?_)
      (try simp only [Act.put]); (try simp only [List.setIfInBounds_toArray]); (try simp only [List.set_cons_succ]); (try simp only [List.set_cons_zero])
      refine wpAnyH_done (by kernel_rfl) ?_ _
      go_wp2_with fail
      go_ret
      exact ⟨A6, c6, rfl, R3.out, hHeld⟩
end Go.Proofs.Ytahdkfenpflahaa
