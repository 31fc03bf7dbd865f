/- Pages of the reference: Get, Seal, Sealed, Free. -/
import Derived.Test.YtfdedkcidemimaaDoorPrF
namespace Go.Proofs.YtfdedkcidemimaaDoor
set_option linter.unusedVariables false
set_option linter.unusedSimpArgs false
open Go.ChangeShapes Go.WideShapes Go.ChangeAt Go.RowKit

set_option maxRecDepth 100000 in
set_option maxHeartbeats 1000000 in
theorem rgetpage_c (p : ByteArray) (s : Int) (hm : p.size ≤ 4000) (w : World) : Calls Tryd.prog 11 #[.string p, .int .i64 s] w fun e w' => e = .returned (.tuple #[.string (getS p s).1, .bool (getS p s).2]) ∧ Below w.heap.size w w' := by
  have Q := hide (fun W => rparts_c p hm W)
  rw [getS_q]
  generalize qC p = C at *
  obtain ⟨x, y, z, l⟩ := C
  unfold GivesQ at Q
  dsimp only at Q ⊢
  have start : ∀ (w2 : World) (A : Option Addr) (cp : Nat), Below w.heap.size w w2 → OwnS w2 w.heap.size (.slice A l.length cp) l → Below w.heap.size w (w2.alloc (.cells #[.int .i64 x, .int .i64 y, .int .i64 z, .slice A l.length cp] 46)) ∧ PBx (w2.alloc (.cells #[.int .i64 x, .int .i64 y, .int .i64 z, .slice A l.length cp] 46)) w2.heap.size x y z (.slice A l.length cp) ∧ OwnS (w2.alloc (.cells #[.int .i64 x, .int .i64 y, .int .i64 z, .slice A l.length cp] 46)) w.heap.size (.slice A l.length cp) l :=
    fun w2 A cp hb ho => ⟨hb.alloc hb.size _, pbx_new w2 x y z _, ho.kept (Bel.one w2 _)⟩
  have HST := hide start
  clear start
  by_cases h0 : s < 0
  · have hv : rgetV l s = (⟨#[]⟩, false) := by unfold rgetV; rw [if_neg (by omega)]
    rw [hv]
    clear hv
    go_enter Tryd.func11, Tryd.ntmps11
    go_wp2_with fail
    refine (Q.out _).mono ?_
    rintro e w2 ⟨A, n, cp, rfl, hb, rfl, hown⟩
    obtain ⟨hb3, hx3, ho3⟩ := HST.out w2 A cp hb hown
    have HB := hide hb3
    clear hb hown hx3 ho3 hb3
    go_wp2_with fail
    go_ret2
    exact ⟨rfl, HB.out⟩
  · obtain ⟨k, rfl⟩ : ∃ k : Nat, s = k := ⟨s.toNat, by omega⟩
    by_cases hk : k < l.length
    · have hki : ¬ (l.length : Int) ≤ (k : Int) := by omega
      have hki2 : (k : Int) < l.length := by omega
      have hx : l[k]? = some l[k] := List.getElem?_eq_getElem hk
      have hg : l.getD k ⟨#[]⟩ = l[k] := by rw [List.getD_eq_getElem?_getD, hx]; rfl
      have hv : rgetV l (k : Int) = if l[k].size ≠ 0 then (l[k], true) else (⟨#[]⟩, false) := by
        unfold rgetV
        rw [Int.toNat_natCast, hg]
        by_cases hz : l[k].size ≠ 0
        · rw [if_pos ⟨by omega, hk, hz⟩, if_pos hz]
        · rw [if_neg (fun h => hz h.2.2), if_neg hz]
      rw [hv]
      have HC := hide (fun (W : World) (B : Nat) (v : Value) (h : OwnS W B v l) => h.cells k hk)
      generalize l[k] = r at *
      have HL := hide hx
      clear hv hg hx
      by_cases hz : r.size = 0
      · obtain rfl : r = ⟨#[]⟩ := by
          apply ByteArray.ext
          exact Array.eq_empty_of_size_eq_zero hz
        rw [if_neg (fun h => h rfl)]
        clear hz
        go_enter Tryd.func11, Tryd.ntmps11
        go_wp2_with fail
        refine (Q.out _).mono ?_
        rintro e w2 ⟨A, n, cp, rfl, hb, rfl, hown⟩
        obtain ⟨hb3, hx3, ho3⟩ := HST.out w2 A cp hb hown
        have HB := hide hb3
        have HX := hide hx3
        obtain ⟨g, c, e, _, hcc, _⟩ := HC.out _ _ _ ho3
        injection e with e1 e2 e3
        subst e1
        clear e2 e3 hb hown hx3 ho3 hb3
        go_upto_region 2 with (fail)
        generalize w2.alloc _ = w3 at *
        obtain ⟨c0, c1, c2, c3, f0, f1, f2, f3⟩ := HX.out.cells
        go_wp2_with fail
        go_ret2
        exact ⟨rfl, HB.out⟩
      · rw [if_pos hz]
        have e1 : (r.toList == []) = false := by
          cases hq : r.toList with
          | nil => exact absurd (by have := congrArg List.length hq; rw [ByteArray.toList_eq] at this; simpa using this) hz
          | cons a t => rfl
        clear hz
        go_enter Tryd.func11, Tryd.ntmps11
        go_wp2_with fail
        refine (Q.out _).mono ?_
        rintro e w2 ⟨A, n, cp, rfl, hb, rfl, hown⟩
        obtain ⟨hb3, hx3, ho3⟩ := HST.out w2 A cp hb hown
        have HB := hide hb3
        have HX := hide hx3
        obtain ⟨g, c, e, _, hcc, _⟩ := HC.out _ _ _ ho3
        injection e with e1 e2 e3
        subst e1
        clear e2 e3 hb hown hx3 ho3 hb3
        go_upto_region 2 with (fail)
        generalize w2.alloc _ = w3 at *
        obtain ⟨c0, c1, c2, c3, f0, f1, f2, f3⟩ := HX.out.cells
        go_wp2_with fail
        go_ret2
        exact ⟨rfl, HB.out⟩
    · have hki : (l.length : Int) ≤ (k : Int) := by omega
      have hv : rgetV l (k : Int) = (⟨#[]⟩, false) := by unfold rgetV; rw [Int.toNat_natCast, if_neg (fun h => hk h.2.1)]
      rw [hv]
      clear hv
      go_enter Tryd.func11, Tryd.ntmps11
      go_wp2_with fail
      refine (Q.out _).mono ?_
      rintro e w2 ⟨A, n, cp, rfl, hb, rfl, hown⟩
      obtain ⟨hb3, hx3, ho3⟩ := HST.out w2 A cp hb hown
      have HB := hide hb3
      have HX := hide hx3
      clear hb hown hx3 ho3 hb3
      go_upto_region 2 with (fail)
      generalize w2.alloc _ = w3 at *
      obtain ⟨c0, c1, c2, c3, f0, f1, f2, f3⟩ := HX.out.cells
      go_wp2_with fail
      go_ret2
      exact ⟨rfl, HB.out⟩
set_option maxRecDepth 100000 in
theorem rseal_c (p : ByteArray) (hm : p.size ≤ 4000) (w : World) : Calls Tryd.prog 29 #[.string p] w fun e w' => e = .returned (.string (sealS p)) ∧ Below w.heap.size w w' := by
  have Q := hide (fun W => rright_c p hm W)
  unfold sealS
  cases hr : rightB p with
  | false =>
    rw [hr] at Q
    rw [if_neg (by decide)]
    clear hr
    go_enter Tryd.func29, Tryd.ntmps29
    go_wp2_with fail
    refine (Q.out _).mono ?_
    rintro e w4 ⟨rfl, hb⟩
    go_wp2_with fail
    go_ret
    exact ⟨rfl, hb⟩
  | true =>
    rw [hr] at Q
    have hsz : p.size = 512 := ((rightP_iff p).mp hr).size
    rw [if_pos rfl]
    have q1 := hide (fun (W : World) => (show Calls Tryd.prog 58 #[.string (p.extract 4 p.size)] W fun e w' => e = .returned (.int .i64 (sumP (p.extract 4 p.size))) ∧ Below W.heap.size W w' from sumP_same (p.extract 4 p.size) ▸ (rsum_c (p.extract 4 p.size) (by rw [ByteArray.size_extract]; omega) W).mono (fun e w' h => ⟨h.1, h.2 ▸ Below.refl _ _⟩)))
    have hp : putP (sumP (p.extract 4 p.size)) 4 = strOfNums (putL (sumP (p.extract 4 p.size)) 4) := putP_in _ 4 (by omega)
    have q2 := hide (fun W => rput_c (sumP (p.extract 4 p.size)) 4 W)
    rw [hp] at q2
    unfold sealP
    have hx : (strOfNums (putL (sumP (p.extract 4 p.size)) 4)).size = 4 := by rw [strOf_size, putL_len]
    have hy : (p.extract 4 p.size).size = 508 := by rw [ByteArray.size_extract]; omega
    have h4 : (4 : Int) ≤ p.size := by omega
    have h512 : (4 : Int) ≤ 512 := by omega
    generalize strOfNums (putL (sumP (p.extract 4 p.size)) 4) = X at *
    generalize sumP (p.extract 4 p.size) = S at *
    have ho : ¬ 9223372036854775807 < X.size + (p.extract 4 p.size).size := by omega
    rw [hsz] at q1 hy ho ⊢
    clear hr hp
    go_enter Tryd.func29, Tryd.ntmps29
    go_wp2_with fail
    refine (Q.out _).mono ?_
    rintro e w4 ⟨rfl, hb⟩
    have HB := hide hb
    clear hb
    go_upto_region 3 with (fail)
    refine wp_region_held_drew (S := (fun w' => Below w.heap.size w w')) (by kernel_rfl) (HB.out.drew) (fun hHeld => ?_)
    first | (refine wpAnyH_take (i := 0) (v := ?_) nth0 (by kernel_rfl) (by kernel_rfl) (by kernel_rfl) (fun _ _ _ h => h) (Or.inl ⟨by rfl, ?_⟩) hHeld ?_; rotate_left; focus (intro wS hSw; go_simp; try with_reducible rfl; done)) | (refine wpAnyH_take (i := 0) (v := undef) nth0 (by kernel_rfl) (by kernel_rfl) (by kernel_rfl) (fun _ _ _ h => h) (Or.inr ⟨by rfl, rfl⟩) hHeld ?_)
    (try simp only [Act.put]); (try simp only [List.setIfInBounds_toArray]); (try simp only [List.set_cons_succ]); (try simp only [List.set_cons_zero])
    first | (refine wpAnyH_take (i := 1) (v := ?_) nth1 (by kernel_rfl) (by kernel_rfl) (by kernel_rfl) (fun _ _ _ h => h) (Or.inl ⟨by rfl, ?_⟩) hHeld ?_; rotate_left; focus (intro wS hSw; go_simp; try with_reducible rfl; done)) | (refine wpAnyH_take (i := 1) (v := undef) nth1 (by kernel_rfl) (by kernel_rfl) (by kernel_rfl) (fun _ _ _ h => h) (Or.inr ⟨by rfl, rfl⟩) hHeld ?_)
    (try simp only [Act.put]); (try simp only [List.setIfInBounds_toArray]); (try simp only [List.set_cons_succ]); (try simp only [List.set_cons_zero])
    first | (refine wpAnyH_take (i := 4) (v := ?_) nth4 (by kernel_rfl) (by kernel_rfl) (by kernel_rfl) (fun _ _ _ h => h) (Or.inl ⟨by rfl, ?_⟩) hHeld ?_; rotate_left; focus (intro wS hSw; go_simp; try with_reducible rfl; done)) | (refine wpAnyH_take (i := 4) (v := undef) nth4 (by kernel_rfl) (by kernel_rfl) (by kernel_rfl) (fun _ _ _ h => h) (Or.inr ⟨by rfl, rfl⟩) hHeld ?_)
    (try simp only [Act.put]); (try simp only [List.setIfInBounds_toArray]); (try simp only [List.set_cons_succ]); (try simp only [List.set_cons_zero])
    first | (refine wpAnyH_take (i := 5) (v := ?_) nth5 (by kernel_rfl) (by kernel_rfl) (by kernel_rfl) (fun _ _ _ h => h) (Or.inl ⟨by rfl, ?_⟩) hHeld ?_; rotate_left; focus (intro wS hSw; go_simp; try with_reducible rfl; done)) | (refine wpAnyH_take (i := 5) (v := undef) nth5 (by kernel_rfl) (by kernel_rfl) (by kernel_rfl) (fun _ _ _ h => h) (Or.inr ⟨by rfl, rfl⟩) hHeld ?_)
    (try simp only [Act.put]); (try simp only [List.setIfInBounds_toArray]); (try simp only [List.set_cons_succ]); (try simp only [List.set_cons_zero])
    refine wpAnyH_ready (rs := [2]) (by kernel_rfl) (by simp) ?_
    refine AllReadyH.cons nth2 (fun K hK => ?_) AllReadyH.nil
    go_simp
    (first | (with_reducible refine (q1.out _).mono ?_; rintro e w' ⟨rfl, hb⟩) | (with_reducible refine (q2.out _).mono ?_; rintro e w' ⟨rfl, hb⟩))
    refine hK.out _ _ (Bel.then hHeld hb) (fun hHeld => ?_)
    clear hK K
    (try simp only [Act.put]); (try simp only [List.setIfInBounds_toArray]); (try simp only [List.set_cons_succ]); (try simp only [List.set_cons_zero])
    refine wpAnyH_ready (rs := [3]) (by kernel_rfl) (by simp) ?_
    refine AllReadyH.cons nth3 (fun K hK => ?_) AllReadyH.nil
    go_simp
    (first | (with_reducible refine (q1.out _).mono ?_; rintro e w' ⟨rfl, hb⟩) | (with_reducible refine (q2.out _).mono ?_; rintro e w' ⟨rfl, hb⟩))
    refine hK.out _ _ (Bel.then hHeld hb) (fun hHeld => ?_)
    clear hK K
    (try simp only [Act.put]); (try simp only [List.setIfInBounds_toArray]); (try simp only [List.set_cons_succ]); (try simp only [List.set_cons_zero])
    first | (refine wpAnyH_take (i := 6) (v := ?_) nth6 (by kernel_rfl) (by kernel_rfl) (by kernel_rfl) (fun _ _ _ h => h) (Or.inl ⟨by rfl, ?_⟩) hHeld ?_; rotate_left; focus (intro wS hSw; go_simp; try with_reducible rfl; done)) | (refine wpAnyH_take (i := 6) (v := undef) nth6 (by kernel_rfl) (by kernel_rfl) (by kernel_rfl) (fun _ _ _ h => h) (Or.inr ⟨by rfl, rfl⟩) hHeld ?_)
    (try simp only [Act.put]); (try simp only [List.setIfInBounds_toArray]); (try simp only [List.set_cons_succ]); (try simp only [List.set_cons_zero])
    first | (refine wpAnyH_take (i := 7) (v := ?_) nth7 (by kernel_rfl) (by kernel_rfl) (by kernel_rfl) (fun _ _ _ h => h) (Or.inl ⟨by rfl, ?_⟩) hHeld ?_; rotate_left; focus (intro wS hSw; go_simp; try with_reducible rfl; done)) | (refine wpAnyH_take (i := 7) (v := undef) nth7 (by kernel_rfl) (by kernel_rfl) (by kernel_rfl) (fun _ _ _ h => h) (Or.inr ⟨by rfl, rfl⟩) hHeld ?_)
    (try simp only [Act.put]); (try simp only [List.setIfInBounds_toArray]); (try simp only [List.set_cons_succ]); (try simp only [List.set_cons_zero])
    refine wpAnyH_done (by kernel_rfl) ?_ _
    go_wp2_with fail
    go_ret
    exact ⟨rfl, hHeld⟩
set_option maxRecDepth 100000 in
theorem rsealed_c (p : ByteArray) (hm : p.size ≤ 4000) (w : World) : Calls Tryd.prog 27 #[.string p] w fun e w' => e = .returned (.bool (sealedS p)) ∧ Below w.heap.size w w' := by
  have Q := hide (fun W => rright_c p hm W)
  have Q2 := hide (fun W => rseal_c p hm W)
  unfold sealedS
  cases hr : rightB p with
  | false =>
    rw [hr] at Q
    rw [Bool.and_false]
    clear hr
    go_enter Tryd.func27, Tryd.ntmps27
    go_wp2_with fail
    refine (Q.out _).mono ?_
    rintro e w4 ⟨rfl, hb⟩
    go_wp2_with fail
    go_ret
    exact ⟨rfl, hb⟩
  | true =>
    rw [hr] at Q
    have hsz : p.size = 512 := ((rightP_iff p).mp hr).size
    have hv : sealS p = sealP (p.extract 4 p.size) := by unfold sealS; rw [if_pos hr]
    rw [hv] at Q2
    rw [Bool.and_true, ← seal_same hsz]
    generalize sealP (p.extract 4 p.size) = X at *
    obtain ⟨b, hb0⟩ : ∃ b, (X.toList == p.toList) = b := ⟨_, rfl⟩
    rw [hb0]
    clear hr hv
    go_enter Tryd.func27, Tryd.ntmps27
    go_wp2_with fail
    refine (Q.out _).mono ?_
    rintro e w4 ⟨rfl, hb⟩
    have HB := hide hb
    clear hb
    go_wp2_with fail
    refine (Q2.out _).mono ?_
    rintro e w5 ⟨rfl, hb⟩
    replace HB := hide (Bel.then HB.out hb)
    clear hb
    go_wp2_with fail
    go_ret
    exact ⟨rfl, HB.out⟩
set_option maxRecDepth 100000 in
theorem rfree_c (p : ByteArray) (hm : p.size ≤ 4000) (w : World) : Calls Tryd.prog 23 #[.string p] w fun e w' => e = .returned (.int .i64 (freeS p)) ∧ Below w.heap.size w w' := by
  have Q := hide (fun W => rparts_c p hm W)
  have hsmall : (qC p).recs.length ≤ 200 := by
    unfold qC
    cases hr : rightB p with
    | false => exact Nat.zero_le _
    | true =>
      have R := (rightP_iff p).mp hr
      rw [if_pos rfl, readC_len]
      have := R.gap
      have := R.beg
      omega
  rw [freeS_q]
  generalize qC p = C at *
  obtain ⟨x, y, z, l⟩ := C
  unfold GivesQ at Q
  dsimp only at Q hsmall ⊢
  obtain ⟨V, hV⟩ : ∃ V, freeI l = V := ⟨_, rfl⟩
  rw [hV]
  have HR0 := hide (show (if idxFrom ⟨#[]⟩ (l.drop 0) 0 < 0 then (l.length : Int) else idxFrom ⟨#[]⟩ (l.drop 0) 0) = V from hV)
  clear hV
  go_enter Tryd.func23, Tryd.ntmps23
  go_wp2_with fail
  refine (Q.out _).mono ?_
  rintro e w2 ⟨A, n, cp, rfl, hb, rfl, hown⟩
  have HX := hide (pbx_new w2 x y z (.slice A l.length cp))
  have HO := hide (hown.kept (Bel.one w2 (.cells #[.int .i64 x, .int .i64 y, .int .i64 z, .slice A l.length cp] 46)))
  have HB := hide (hb.alloc hb.size (.cells #[.int .i64 x, .int .i64 y, .int .i64 z, .slice A l.length cp] 46))
  clear hb hown
  go_upto_region 3 with (fail)
  generalize w2.alloc _ = w3 at *
  obtain ⟨c0, c1, c2, c3, f0, f1, f2, f3⟩ := HX.out.cells
  go_loopw [4] (fun i wr => ∃ k : Nat, k ≤ l.length ∧ i = .int .i64 k ∧ wr = w3 ∧ Hid ((if idxFrom ⟨#[]⟩ (l.drop k) k < 0 then (l.length : Int) else idxFrom ⟨#[]⟩ (l.drop k) k) = V)) (fun i _ => l.length - (intOf i).toNat)
  case atStart => exact ⟨0, Nat.zero_le _, rfl, rfl, HR0⟩
  case round =>
    clear HR0
    obtain ⟨k, hk, rfl, rfl, HK⟩ := hrel
    by_cases hlt : k < l.length
    · have hlti : (k : Int) < l.length := by omega
      have hwk : IntKind.i64.wrap ((k : Int) + 1) = (k : Int) + 1 := IntWalk.i64_in _ (by omega)
      obtain ⟨g, c, e, _, hcc, _⟩ := HO.out.cells k hlt
      injection e with e1 e2 e3
      subst e1
      clear e2 e3
      have hx : l[k]? = some l[k] := List.getElem?_eq_getElem hlt
      have HK2 := HK.out
      rw [drop_at hx] at HK2
      unfold idxFrom at HK2
      generalize l[k] = r at *
      obtain ⟨q, hq⟩ : ∃ q, ((⟨#[]⟩ : ByteArray).toList == r.toList) = q := ⟨_, rfl⟩
      have hq2 : (r.toList == []) = q := by
        rw [← hq, toList_bl ⟨#[]⟩]
        have hc : ∀ m : List UInt8, (m == []) = (([] : List UInt8) == m) := by intro m; cases m <;> rfl
        exact hc r.toList
      cases q with
      | true =>
        rw [if_pos hq, if_neg (by omega)] at HK2
        subst HK2
        clear HK hx
        go_wp2_with fail
        go_ret
        exact ⟨rfl, HB.out⟩
      | false =>
        rw [if_neg (show ¬ ((⟨#[]⟩ : ByteArray).toList == r.toList) = true from by rw [hq]; decide)] at HK2
        have HK3 := hide HK2
        clear HK HK2 hx
        go_wp2_with fail
        go_roundw
        case rel => exact ⟨k + 1, by omega, by go_num, by first | trivial | rfl, HK3⟩
        case measure => simp [intOf]; omega
    · have hlti : ¬ (k : Int) < l.length := by omega
      have HK2 := HK.out
      rw [List.drop_eq_nil_of_le (by omega)] at HK2
      have hVl : (l.length : Int) = V := HK2
      subst hVl
      clear HK HK2
      go_wp2_with fail
      go_ret
      exact ⟨rfl, HB.out⟩
end Go.Proofs.YtfdedkcidemimaaDoor
