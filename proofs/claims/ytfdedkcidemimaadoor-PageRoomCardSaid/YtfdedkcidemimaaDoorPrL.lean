/- Pages: Room, both. -/
import Derived.Test.YtfdedkcidemimaaDoorPmG
import Derived.Test.YtfdedkcidemimaaDoorPrG
namespace Go.Proofs.YtfdedkcidemimaaDoor
set_option linter.unusedVariables false
set_option linter.unusedSimpArgs false
open Go.ChangeShapes Go.WideShapes Go.ChangeAt Go.RowKit

def roomV (l : List ByteArray) : Int := min (max ((512 : Int) - sizeN l - (if freeI l = (l.length : Int) then 4 else 0)) 0) 400
def roomS (p : ByteArray) : Int := if rightB p then roomV (readC p).recs else 0
set_option maxRecDepth 100000 in
theorem room_c (p : ByteArray) (hm : p.size ≤ 4000) (w : World) : Calls Tryd.prog 24 #[.string p] w fun e w' => e = .returned (.int .i64 (roomS p)) ∧ Below w.heap.size w w' := by
  unfold roomS
  cases hr : rightB p with
  | false =>
    have Q := hide (right_q p hm hr)
    clear hr
    go_enter Tryd.func24, Tryd.ntmps24
    go_wp2_with fail
    refine (Q.out _).mono ?_
    rintro e w4 ⟨rfl, hb⟩
    go_wp2_with fail
    go_ret
    exact ⟨rfl, hb⟩
  | true =>
    have Q := hide (right_q p hm hr)
    have R := (rightP_iff p).mp hr
    have Q2 := hide (fun W => read_c p hm R W)
    have hn : (readC p).recs.length ≤ 1048576 := by rw [readC_len]; have := R.gap; have := R.beg; omega
    have hfit := readC_fits R
    rw [if_pos rfl]
    generalize readC p = C at *
    obtain ⟨x, y, z, l⟩ := C
    dsimp only at hn hfit ⊢
    have Q3 := hide (fun A c W hW => free_c x y z A l.length c l W hW hn)
    have Q4 := hide (fun A c W hW => size_c x y z A l.length c l W hW (by omega))
    unfold roomV
    generalize freeI l = F at *
    generalize sizeN l = S at *
    obtain ⟨V, hV⟩ : ∃ V, min (max ((512 : Int) - S - (if F = (l.length : Int) then 4 else 0)) 0) 400 = V := ⟨_, rfl⟩
    rw [hV]
    have HV := hide hV
    clear hV
    have hw1 : IntKind.i64.wrap (512 - (S : Int)) = 512 - (S : Int) := IntWalk.i64_in _ (by omega)
    have hw2 : IntKind.i64.wrap (512 - (S : Int) - 4) = 512 - (S : Int) - 4 := IntWalk.i64_in _ (by omega)
    clear hr R
    go_enter Tryd.func24, Tryd.ntmps24
    go_wp2_with fail
    refine (Q.out _).mono ?_
    rintro e w4 ⟨rfl, hb⟩
    have HB := hide hb
    clear hb
    go_wp2_with fail
    refine (Q2.out _).mono ?_
    rintro e w7 ⟨v, rfl, hown, hb⟩
    obtain ⟨A, cp, rfl, _⟩ := hown.sl
    have HS := hide (CtS.new (w := w) (c := ⟨x, y, z, l⟩) (hown.more HB.out.size) (Bel.then HB.out hb))
    clear hb hown HB
    go_upto_region 4 with (fail)
    generalize w7.alloc (.cells #[.int .i64 x, .int .i64 y, .int .i64 z, .slice A l.length cp] 52) = w8 at *
    generalize w7.heap.size = gx at *
    obtain ⟨c0, c1, c2, c3, f0, f1, f2, f3⟩ := HS.out.bx.cells
    dsimp only at c0 c1 c2
    go_wp2_with fail
    refine (Q4.out _ _ _ HS.out.sl).mono ?_
    rintro e w9 ⟨rfl, hb⟩
    replace HS := hide (HS.out.kept hb)
    clear hb c0 c1 c2 c3 f0 f1 f2 f3
    go_upto_region 5 with (fail)
    refine wp_region_held_drew (S := (fun w' => CtS w gx ⟨x, y, z, l⟩ (.slice A l.length cp) w')) (by kernel_rfl) (HS.out.kept (Below.refl _ _).drew) (fun hHeld => ?_)
    first | (refine wpAnyH_take (i := 0) (v := ?_) nth0 (by kernel_rfl) (by kernel_rfl) (by kernel_rfl) (fun _ _ _ h => h) (Or.inl ⟨by rfl, ?_⟩) hHeld ?_; rotate_left; focus (intro wS hSw; (obtain ⟨c0, c1, c2, c3, f0, f1, f2, f3⟩ := hSw.bx.cells; dsimp only at c0 c1 c2); go_simp; try with_reducible rfl; done)) | (refine wpAnyH_take (i := 0) (v := undef) nth0 (by kernel_rfl) (by kernel_rfl) (by kernel_rfl) (fun _ _ _ h => h) (Or.inr ⟨by rfl, rfl⟩) hHeld ?_)
    (try simp only [Act.put]); (try simp only [List.setIfInBounds_toArray]); (try simp only [List.set_cons_succ]); (try simp only [List.set_cons_zero])
    first | (refine wpAnyH_take (i := 2) (v := ?_) nth2 (by kernel_rfl) (by kernel_rfl) (by kernel_rfl) (fun _ _ _ h => h) (Or.inl ⟨by rfl, ?_⟩) hHeld ?_; rotate_left; focus (intro wS hSw; (obtain ⟨c0, c1, c2, c3, f0, f1, f2, f3⟩ := hSw.bx.cells; dsimp only at c0 c1 c2); go_simp; try with_reducible rfl; done)) | (refine wpAnyH_take (i := 2) (v := undef) nth2 (by kernel_rfl) (by kernel_rfl) (by kernel_rfl) (fun _ _ _ h => h) (Or.inr ⟨by rfl, rfl⟩) hHeld ?_)
    (try simp only [Act.put]); (try simp only [List.setIfInBounds_toArray]); (try simp only [List.set_cons_succ]); (try simp only [List.set_cons_zero])
    first | (refine wpAnyH_take (i := 3) (v := ?_) nth3 (by kernel_rfl) (by kernel_rfl) (by kernel_rfl) (fun _ _ _ h => h) (Or.inl ⟨by rfl, ?_⟩) hHeld ?_; rotate_left; focus (intro wS hSw; (obtain ⟨c0, c1, c2, c3, f0, f1, f2, f3⟩ := hSw.bx.cells; dsimp only at c0 c1 c2); go_simp; try with_reducible rfl; done)) | (refine wpAnyH_take (i := 3) (v := undef) nth3 (by kernel_rfl) (by kernel_rfl) (by kernel_rfl) (fun _ _ _ h => h) (Or.inr ⟨by rfl, rfl⟩) hHeld ?_)
    (try simp only [Act.put]); (try simp only [List.setIfInBounds_toArray]); (try simp only [List.set_cons_succ]); (try simp only [List.set_cons_zero])
    first | (refine wpAnyH_take (i := 4) (v := ?_) nth4 (by kernel_rfl) (by kernel_rfl) (by kernel_rfl) (fun _ _ _ h => h) (Or.inl ⟨by rfl, ?_⟩) hHeld ?_; rotate_left; focus (intro wS hSw; (obtain ⟨c0, c1, c2, c3, f0, f1, f2, f3⟩ := hSw.bx.cells; dsimp only at c0 c1 c2); go_simp; try with_reducible rfl; done)) | (refine wpAnyH_take (i := 4) (v := undef) nth4 (by kernel_rfl) (by kernel_rfl) (by kernel_rfl) (fun _ _ _ h => h) (Or.inr ⟨by rfl, rfl⟩) hHeld ?_)
    (try simp only [Act.put]); (try simp only [List.setIfInBounds_toArray]); (try simp only [List.set_cons_succ]); (try simp only [List.set_cons_zero])
    refine wpAnyH_ready (rs := [1]) (by kernel_rfl) (by simp) ?_
    refine AllReadyH.cons nth1 (fun K hK => ?_) AllReadyH.nil
    go_simp
    (refine (Q3.out _ _ _ hHeld.sl).mono ?_; rintro e w' ⟨rfl, hb⟩)
    refine hK.out _ _ (hHeld.kept hb) (fun hHeld => ?_)
    clear hK K
    (try simp only [Act.put]); (try simp only [List.setIfInBounds_toArray]); (try simp only [List.set_cons_succ]); (try simp only [List.set_cons_zero])
    first | (refine wpAnyH_take (i := 5) (v := ?_) nth5 (by kernel_rfl) (by kernel_rfl) (by kernel_rfl) (fun _ _ _ h => h) (Or.inl ⟨by rfl, ?_⟩) hHeld ?_; rotate_left; focus (intro wS hSw; (obtain ⟨c0, c1, c2, c3, f0, f1, f2, f3⟩ := hSw.bx.cells; dsimp only at c0 c1 c2); go_simp; try with_reducible rfl; done)) | (refine wpAnyH_take (i := 5) (v := undef) nth5 (by kernel_rfl) (by kernel_rfl) (by kernel_rfl) (fun _ _ _ h => h) (Or.inr ⟨by rfl, rfl⟩) hHeld ?_)
    (try simp only [Act.put]); (try simp only [List.setIfInBounds_toArray]); (try simp only [List.set_cons_succ]); (try simp only [List.set_cons_zero])
    refine wpAnyH_done (by kernel_rfl) ?_ _
    have HB := hide hHeld.hb
    clear hHeld HS
    by_cases hF : F = (l.length : Int)
    · have hV := HV.out
      rw [if_pos hF] at hV
      have hFb : (F == (l.length : Int)) = true := by simp [hF]
      have HV2 := hide hV
      clear HV hV hF
      go_wp2_with fail
      go_ret
      exact ⟨by rw [← HV2.out]; rfl, HB.out⟩
    · have hV := HV.out
      rw [if_neg hF, Int.sub_zero] at hV
      have hFb : (F == (l.length : Int)) = false := by simp [hF]
      have HV2 := hide hV
      clear HV hV hF
      go_wp2_with fail
      go_ret
      exact ⟨by rw [← HV2.out]; rfl, HB.out⟩
theorem idx_range (v : ByteArray) : ∀ (l : List ByteArray) (k : Nat), idxFrom v l k = -1 ∨ ((k : Int) ≤ idxFrom v l k ∧ idxFrom v l k < k + l.length)
  | [], k => .inl rfl
  | x :: l, k => by
    unfold idxFrom
    split
    · right
      simp only [List.length_cons]
      omega
    · rcases idx_range v l (k + 1) with h | h
      · exact .inl h
      · right
        simp only [List.length_cons]
        omega
theorem freeI_range (l : List ByteArray) : 0 ≤ freeI l ∧ freeI l ≤ l.length := by
  unfold freeI
  rcases idx_range ⟨#[]⟩ l 0 with h | h
  · rw [h, if_pos (by omega)]
    omega
  · rw [if_neg (by omega)]
    omega
theorem room_other (l : List ByteArray) (F : Int) (h : 0 ≤ F ∧ F ≤ l.length) : max 0 (min (493 - 4 * max (l.length : Int) (F + 1) - (sumS l : Int)) 400) = min (max ((512 : Int) - sizeN l - (if F = (l.length : Int) then 4 else 0)) 0) 400 := by
  unfold sizeN
  by_cases hF : F = (l.length : Int)
  · rw [if_pos hF]
    omega
  · rw [if_neg hF]
    omega
set_option maxRecDepth 100000 in
theorem rroom_c (p : ByteArray) (hm : p.size ≤ 4000) (w : World) : Calls Tryd.prog 25 #[.string p] w fun e w' => e = .returned (.int .i64 (roomS p)) ∧ Below w.heap.size w w' := by
  have Q := hide (fun W => parts_c p hm W)
  unfold GivesP at Q
  unfold roomS
  cases hr : rightB p with
  | false =>
    rw [hr] at Q
    rw [if_neg (by decide)]
    clear hr
    go_enter Tryd.func25, Tryd.ntmps25
    go_wp2_with fail
    refine (Q.out _).mono ?_
    rintro e w2 ⟨x, y, z, A, n, cp, rfl, hb, hall⟩
    clear hall
    have HB := hide (hb.alloc hb.size (.cells #[.int .i64 x, .int .i64 y, .int .i64 z, .slice A n cp] 46))
    clear hb
    go_wp2_with fail
    go_ret
    exact ⟨rfl, HB.out⟩
  | true =>
    rw [hr] at Q
    have R := (rightP_iff p).mp hr
    have QF := hide (fun W => rfree_c p hm W)
    have hfq : freeS p = freeI (readC p).recs := by unfold freeS; rw [if_pos hr]
    have hfit := readC_fits R
    rw [hfq] at QF
    rw [if_pos rfl]
    clear hr hfq R
    generalize readC p = C at *
    obtain ⟨x, y, z, l⟩ := C
    dsimp only at *
    have hrg := freeI_range l
    have hval := room_other l (freeI l) hrg
    have hvv : roomV l = min (max ((512 : Int) - sizeN l - (if freeI l = (l.length : Int) then 4 else 0)) 0) 400 := rfl
    rw [hvv, ← hval]
    unfold sizeN at hfit
    generalize freeI l = F at *
    obtain ⟨S, hS⟩ : ∃ S, sumS l = S := ⟨_, rfl⟩
    rw [hS] at hfit ⊢
    obtain ⟨V, hV⟩ : ∃ V, max 0 (min (493 - 4 * max (l.length : Int) (F + 1) - (S : Int)) 400) = V := ⟨_, rfl⟩
    rw [hV]
    have HV := hide hV
    obtain ⟨X, hX⟩ : ∃ X, max (l.length : Int) (F + 1) = X := ⟨_, rfl⟩
    rw [hX] at HV
    have hXr : 0 ≤ X ∧ X ≤ 200 := by omega
    have HX9 := hide hX
    have hw1 : IntKind.i64.wrap (F + 1) = F + 1 := IntWalk.i64_in _ (by omega)
    have hw2 : IntKind.i64.wrap (4 * X) = 4 * X := IntWalk.i64_in _ (by omega)
    have hw3 : IntKind.i64.wrap (493 - 4 * X) = 493 - 4 * X := IntWalk.i64_in _ (by omega)
    have HR0 := hide (show 493 - 4 * X - (0 : Nat) = 493 - 4 * X by omega)
    have HS0 := hide (show 0 + sumS (l.drop 0) = S by rw [Nat.zero_add]; exact hS)
    clear hval hvv hV hS
    go_enter Tryd.func25, Tryd.ntmps25
    go_wp2_with fail
    refine (Q.out _).mono ?_
    rintro e w2 ⟨x', y', z', A, n', cp, rfl, hb, hall⟩
    obtain ⟨hx1, hx2, hx3, hx4, hown⟩ := hall (by trivial)
    subst x' y' z' n'
    have HS := hide (PtS.new (w := w) (c := ⟨x, y, z, l⟩) hown hb)
    clear hb hown hall Q
    go_upto_region 4 with (fail)
    try dsimp only at HS
    generalize w2.alloc (.cells #[.int .i64 x, .int .i64 y, .int .i64 z, .slice A l.length cp] 46) = w3 at *
    generalize w2.heap.size = gx at *
    refine wp_region_held_drew (S := (fun w' => PtS w gx ⟨x, y, z, l⟩ (.slice A l.length cp) w')) (by kernel_rfl) (HS.out.kept (Below.refl _ _).drew) (fun hHeld => ?_)
    first | (refine wpAnyH_take (i := 0) (v := ?_) nth0 (by kernel_rfl) (by kernel_rfl) (by kernel_rfl) (fun _ _ _ h => h) (Or.inl ⟨by rfl, ?_⟩) hHeld ?_; rotate_left; focus (intro wS hSw; (obtain ⟨c0, c1, c2, c3, f0, f1, f2, f3⟩ := hSw.bx.cells; dsimp only at c0 c1 c2); go_simp; try with_reducible rfl; done)) | (refine wpAnyH_take (i := 0) (v := undef) nth0 (by kernel_rfl) (by kernel_rfl) (by kernel_rfl) (fun _ _ _ h => h) (Or.inr ⟨by rfl, rfl⟩) hHeld ?_)
    (try simp only [Act.put]); (try simp only [List.setIfInBounds_toArray]); (try simp only [List.set_cons_succ]); (try simp only [List.set_cons_zero])
    first | (refine wpAnyH_take (i := 1) (v := ?_) nth1 (by kernel_rfl) (by kernel_rfl) (by kernel_rfl) (fun _ _ _ h => h) (Or.inl ⟨by rfl, ?_⟩) hHeld ?_; rotate_left; focus (intro wS hSw; (obtain ⟨c0, c1, c2, c3, f0, f1, f2, f3⟩ := hSw.bx.cells; dsimp only at c0 c1 c2); go_simp; try with_reducible rfl; done)) | (refine wpAnyH_take (i := 1) (v := undef) nth1 (by kernel_rfl) (by kernel_rfl) (by kernel_rfl) (fun _ _ _ h => h) (Or.inr ⟨by rfl, rfl⟩) hHeld ?_)
    (try simp only [Act.put]); (try simp only [List.setIfInBounds_toArray]); (try simp only [List.set_cons_succ]); (try simp only [List.set_cons_zero])
    first | (refine wpAnyH_take (i := 2) (v := ?_) nth2 (by kernel_rfl) (by kernel_rfl) (by kernel_rfl) (fun _ _ _ h => h) (Or.inl ⟨by rfl, ?_⟩) hHeld ?_; rotate_left; focus (intro wS hSw; (obtain ⟨c0, c1, c2, c3, f0, f1, f2, f3⟩ := hSw.bx.cells; dsimp only at c0 c1 c2); go_simp; try with_reducible rfl; done)) | (refine wpAnyH_take (i := 2) (v := undef) nth2 (by kernel_rfl) (by kernel_rfl) (by kernel_rfl) (fun _ _ _ h => h) (Or.inr ⟨by rfl, rfl⟩) hHeld ?_)
    (try simp only [Act.put]); (try simp only [List.setIfInBounds_toArray]); (try simp only [List.set_cons_succ]); (try simp only [List.set_cons_zero])
    first | (refine wpAnyH_take (i := 3) (v := ?_) nth3 (by kernel_rfl) (by kernel_rfl) (by kernel_rfl) (fun _ _ _ h => h) (Or.inl ⟨by rfl, ?_⟩) hHeld ?_; rotate_left; focus (intro wS hSw; (obtain ⟨c0, c1, c2, c3, f0, f1, f2, f3⟩ := hSw.bx.cells; dsimp only at c0 c1 c2); go_simp; try with_reducible rfl; done)) | (refine wpAnyH_take (i := 3) (v := undef) nth3 (by kernel_rfl) (by kernel_rfl) (by kernel_rfl) (fun _ _ _ h => h) (Or.inr ⟨by rfl, rfl⟩) hHeld ?_)
    (try simp only [Act.put]); (try simp only [List.setIfInBounds_toArray]); (try simp only [List.set_cons_succ]); (try simp only [List.set_cons_zero])
    refine wpAnyH_ready (rs := [4]) (by kernel_rfl) (by simp) ?_
    refine AllReadyH.cons nth4 (fun K hK => ?_) AllReadyH.nil
    go_simp
    (refine (QF.out _).mono ?_; rintro e w' ⟨rfl, hb⟩)
    refine hK.out _ _ (hHeld.kept hb) (fun hHeld => ?_)
    clear hK K
    (try simp only [Act.put]); (try simp only [List.setIfInBounds_toArray]); (try simp only [List.set_cons_succ]); (try simp only [List.set_cons_zero])
    first | (refine wpAnyH_take (i := 5) (v := ?_) nth5 (by kernel_rfl) (by kernel_rfl) (by kernel_rfl) (fun _ _ _ h => h) (Or.inl ⟨by rfl, ?_⟩) hHeld ?_; rotate_left; focus (intro wS hSw; (obtain ⟨c0, c1, c2, c3, f0, f1, f2, f3⟩ := hSw.bx.cells; dsimp only at c0 c1 c2); go_simp; try with_reducible rfl; done)) | (refine wpAnyH_take (i := 5) (v := undef) nth5 (by kernel_rfl) (by kernel_rfl) (by kernel_rfl) (fun _ _ _ h => h) (Or.inr ⟨by rfl, rfl⟩) hHeld ?_)
    (try simp only [Act.put]); (try simp only [List.setIfInBounds_toArray]); (try simp only [List.set_cons_succ]); (try simp only [List.set_cons_zero])
    first | (refine wpAnyH_take (i := 6) (v := ?_) nth6 (by kernel_rfl) (by kernel_rfl) (by kernel_rfl) (fun _ _ _ h => h) (Or.inl ⟨by rfl, ?_⟩) hHeld ?_; rotate_left; focus (intro wS hSw; (obtain ⟨c0, c1, c2, c3, f0, f1, f2, f3⟩ := hSw.bx.cells; dsimp only at c0 c1 c2); go_simp; try with_reducible rfl; done)) | (refine wpAnyH_take (i := 6) (v := undef) nth6 (by kernel_rfl) (by kernel_rfl) (by kernel_rfl) (fun _ _ _ h => h) (Or.inr ⟨by rfl, rfl⟩) hHeld ?_)
    (try simp only [Act.put]); (try simp only [List.setIfInBounds_toArray]); (try simp only [List.set_cons_succ]); (try simp only [List.set_cons_zero])
    first | (refine wpAnyH_take (i := 7) (v := ?_) nth7 (by kernel_rfl) (by kernel_rfl) (by kernel_rfl) (fun _ _ _ h => h) (Or.inl ⟨by rfl, ?_⟩) hHeld ?_; rotate_left; focus (intro wS hSw; (obtain ⟨c0, c1, c2, c3, f0, f1, f2, f3⟩ := hSw.bx.cells; dsimp only at c0 c1 c2); go_simp; try with_reducible rfl; done)) | (refine wpAnyH_take (i := 7) (v := undef) nth7 (by kernel_rfl) (by kernel_rfl) (by kernel_rfl) (fun _ _ _ h => h) (Or.inr ⟨by rfl, rfl⟩) hHeld ?_)
    (try simp only [Act.put]); (try simp only [List.setIfInBounds_toArray]); (try simp only [List.set_cons_succ]); (try simp only [List.set_cons_zero])
    refine wpAnyH_done (by kernel_rfl) ?_ _
    have HS2 := hide hHeld
    clear hHeld HS hX
    obtain ⟨c0, c1, c2, c3, f0, f1, f2, f3⟩ := HS2.out.bx.cells
    dsimp only at c0 c1 c2
    obtain ⟨wn, hwn⟩ : ∃ wn, wn = w' := ⟨_, rfl⟩
    subst hwn
    go_upto_region 7 with (fail)
    go_loopw [6, 7] (fun s i wr => ∃ (k m : Nat), k ≤ l.length ∧ m ≤ S ∧ s = .int .i64 (493 - 4 * X - m) ∧ i = .int .i64 k ∧ wr = wn ∧ Hid (m + sumS (l.drop k) = S)) (fun _ i _ => l.length - (intOf i).toNat)
    case atStart => exact ⟨0, 0, Nat.zero_le _, Nat.zero_le _, by rw [HR0.out], rfl, rfl, HS0⟩
    case round =>
      clear HS0 HR0
      obtain ⟨k, m, hk, hmS, rfl, rfl, rfl, HK⟩ := hrel
      by_cases hlt : k < l.length
      · have hlti : (k : Int) < l.length := by omega
        have hwk : IntKind.i64.wrap ((k : Int) + 1) = (k : Int) + 1 := IntWalk.i64_in _ (by omega)
        obtain ⟨g, c, e, _, hcc, _⟩ := HS2.out.own.cells k hlt
        injection e with e1 e2 e3
        subst e1
        clear e2 e3
        have hx : l[k]? = some l[k] := List.getElem?_eq_getElem hlt
        have HK2 := HK.out
        rw [drop_at hx] at HK2
        unfold sumS at HK2
        dsimp only at hcc
        generalize l[k] = u at *
        have HK3 := hide (show (m + u.size) + sumS (l.drop (k + 1)) = S by omega)
        have w3' : IntKind.i64.wrap (493 - 4 * X - (m : Int) - (u.size : Int)) = 493 - 4 * X - ((m + u.size : Nat) : Int) := by rw [IntWalk.i64_in _ (by omega)]; omega
        have hmu : m + u.size ≤ S := by omega
        clear HK HK2 hx
        go_wp2_with fail
        go_roundw
        case rel => exact ⟨k + 1, m + u.size, by omega, hmu, by first | rfl | go_num, by go_num, by first | trivial | rfl, HK3⟩
        case measure => simp [intOf]; omega
      · have hlti : ¬ (k : Int) < l.length := by omega
        have HK2 := HK.out
        rw [List.drop_eq_nil_of_le (by omega)] at HK2
        have hmV : m = S := HK2
        subst hmV
        clear HK HK2
        go_wp2_with fail
        go_ret
        exact ⟨by rw [← HV.out]; rfl, HS2.out.hb⟩
end Go.Proofs.YtfdedkcidemimaaDoor
