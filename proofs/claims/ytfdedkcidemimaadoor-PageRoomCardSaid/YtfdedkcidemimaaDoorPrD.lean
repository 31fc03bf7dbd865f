/- Pages of the reference: Lay, its walk. -/
import Derived.Test.YtfdedkcidemimaaDoorPrC
namespace Go.Proofs.YtfdedkcidemimaaDoor
set_option linter.unusedVariables false
set_option linter.unusedSimpArgs false
open Go.ChangeShapes Go.WideShapes Go.ChangeAt Go.RowKit

set_option maxRecDepth 100000 in
set_option maxHeartbeats 4000000 in
theorem rlay_c (x y z : Int) (A : Option Addr) (n c : Nat) (l : List ByteArray) (w : World) (h : SlAt stC 1 w w.heap.size A n c l) (hn : sizeN l ≤ 1048576) (hy : 0 ≤ y ∧ y ≤ 255) : Calls Tryd.prog 60 #[.agg #[.int .i64 x, .int .i64 y, .int .i64 z, .slice A n c]] w fun e w' => e = .returned (.string (layR ⟨x, y, z, l⟩)) ∧ Below w.heap.size w w' := by
  have hlen := h.len
  have hB := Bel.one w (.cells #[.int .i64 x, .int .i64 y, .int .i64 z, .slice A n c] 46)
  have H0 := hide h
  have HB0 := hide hB
  have HX0 := hide (pbx_new w x y z (.slice A n c))
  have H1 := hide (h.kept hB)
  have hn3 : n ≤ 1048576 := by rw [← hlen]; unfold sizeN at hn; omega
  have QT := hide (fun W hW => rtrim_c A n c l W hW hn3)
  have hle := trimN_le l n
  obtain ⟨T, hT⟩ : ∃ T, trimN l n = T := ⟨_, rfl⟩
  obtain ⟨l2, hl2⟩ : ∃ l2, l.take T = l2 := ⟨_, rfl⟩
  have hl2n : l2.length = T := by rw [← hl2, List.length_take]; omega
  obtain ⟨R, hR⟩ : ∃ R, layR ⟨x, y, z, l⟩ = R := ⟨_, rfl⟩
  have hR2 : R = if sizeN l2 ≤ 512 then layL ⟨x, y, z, l2⟩ else ⟨#[]⟩ := by
    rw [← hR]
    unfold layR trimmed withR
    dsimp only
    rw [hlen, hT, hl2]
  have hs2 : sizeN l2 ≤ 1048576 := by have := sizeN_take l T; rw [hl2] at this; omega
  have H2 := hide (fun (W : World) (hb : Below w.heap.size w W) => hl2 ▸ ((h.kept hb).cut (j := T) (by omega)))
  have H3 := hide (fun (W : World) (hb : Below w.heap.size w W) => hl2 ▸ ((h.below hb).cut (j := T) (by omega)))
  have QF := hide (fun W hW => rfits_c x y z A T c l2 W hW hs2)
  rw [hT] at QT
  rw [hR]
  have HR := hide hR2
  have HL2 := hide hl2n
  clear h hB hR hR2 hT hl2 hl2n hlen hn
  go_enter Tryd.func60, Tryd.ntmps60
  go_upto_region 1 with (fail)
  generalize w.alloc (.cells #[.int .i64 x, .int .i64 y, .int .i64 z, .slice A n c] 46) = w1 at *
  obtain ⟨c0, c1, c2, c3, f0, f1, f2, f3⟩ := HX0.out.cells
  go_wp2_with fail
  refine (QT.out _ H1.out).mono ?_
  rintro e w2 ⟨rfl, rfl⟩
  have HX := hide (HX0.out.set3 (.slice A T c))
  have HB := hide (HB0.out.setCell (p := ⟨w.heap.size, 3, none⟩) (Nat.le_refl _) (.slice A T c))
  go_upto_region 2 with (fail)
  generalize w1.setCell ⟨w.heap.size, 3, none⟩ (.slice A T c) = w3 at *
  clear c0 c1 c2 c3 f0 f1 f2 f3 HX0 HB0 H1
  obtain ⟨c0, c1, c2, c3, f0, f1, f2, f3⟩ := HX.out.cells
  go_wp2_with fail
  refine (QF.out _ (H2.out _ HB.out)).mono ?_
  rintro e w4 ⟨rfl, hb⟩
  replace HX := hide (HX.out.kept hb)
  replace HB := hide (Bel.then HB.out hb)
  clear hb c0 c1 c2 c3 f0 f1 f2 f3
  by_cases h5 : sizeN l2 ≤ 512
  · have hR := HR.out
    rw [if_pos h5] at hR
    have HR5 := hide hR
    have hd : decide (sizeN l2 ≤ 512) = true := decide_eq_true h5
    rw [hd]
    have hsum : 19 + 4 * T + sumS l2 ≤ 512 := by have := h5; unfold sizeN at this; rw [HL2.out] at this; exact this
    have HOK := hide (fun k (hk : k ≤ T) => layF_ok l2 k (by rw [HL2.out]; exact hk) (by omega))
    have HNX := hide (fun k r (hr : l2[k]? = some r) => layF_next hr)
    have HST := hide (sumS_take l2)
    have HAT : Hid (layF (l2.take 0) = ⟨512, [], []⟩) := hide rfl
    clear hd h5 HR hR QF QT hs2
    go_upto_region 7 with (fail)
    go_loopw [3, 4, 5, 6] (fun a s r i wr => ∃ k : Nat, k ≤ T ∧ i = .int .i64 k ∧ a = .int .i64 (layF (l2.take k)).at' ∧ s = .string (bytesOf (layF (l2.take k)).slots) ∧ r = .string (bytesOf (layF (l2.take k)).recs) ∧ Hid (PBx wr w.heap.size x y z (.slice A T c)) ∧ Hid (Below w.heap.size w wr)) (fun _ _ _ i _ => T - (intOf i).toNat)
    case atStart => exact ⟨0, Nat.zero_le _, rfl, rfl, rfl, rfl, HX, HB⟩
    case round =>
      clear HX HB
      obtain ⟨k, hk, rfl, rfl, rfl, rfl, HX, HB⟩ := hrel
      obtain ⟨c0, c1, c2, c3, f0, f1, f2, f3⟩ := HX.out.cells
      by_cases hlt : k < T
      · have hlti : (k : Int) < T := by omega
        have hwk : IntKind.i64.wrap ((k : Int) + 1) = (k : Int) + 1 := IntWalk.i64_in _ (by omega)
        obtain ⟨b, off, r, rfl, hbl, hx, hc⟩ := (H3.out _ HB.out).at (by decide) hlt
        have d0 := hc 0 _ rfl
        simp only [Nat.mul_one, Nat.add_zero] at d0
        have HD := hide (fun (W : World) (hb : Below w.heap.size w W) => (show W.cell? ⟨b, off + k, none⟩ = some (.string r) by
          obtain ⟨b', off', r', e1, _, hx', hc'⟩ := (H3.out _ hb).at (by decide) hlt
          injection e1 with e1
          injection e1 with e1 e2 _
          subst e1 e2
          rw [hx] at hx'
          injection hx' with hx'
          subst hx'
          have d1 := hc' 0 _ rfl
          simp only [Nat.mul_one, Nat.add_zero] at d1
          exact d1))
        clear hc
        have hok := HOK.out k hk
        have hok2 := HOK.out (k + 1) hlt
        have hnx := HNX.out k r hx
        have hst := HST.out (k + 1)
        have hat' := hok.at'
        have hsl := hok.slots
        have hrl := hok.recs
        have hat2 := hok2.at'
        have hlk : (l2.take k).length = k := by rw [List.length_take, HL2.out]; omega
        rw [hlk] at hsl
        have hst0 := HST.out k
        clear hok hok2 hlk
        generalize layF (l2.take k) = V at *
        obtain ⟨V2, hV2⟩ : ∃ V2, layF (l2.take (k + 1)) = V2 := ⟨_, rfl⟩
        rw [hV2] at hnx hat2
        have HV2 := hide hV2
        clear hV2
        generalize sumS (l2.take (k + 1)) = S2 at *
        generalize sumS (l2.take k) = S1 at *
        obtain ⟨bg, sl, rs⟩ := V
        simp only at hat' hsl hrl
        have hbs := bytesOf_size sl
        have hrs2 := bytesOf_size rs
        by_cases hr : r.size = 0
        · obtain rfl : r = ⟨#[]⟩ := by
            apply ByteArray.ext
            exact Array.eq_empty_of_size_eq_zero hr
          have hv2 : V2 = ⟨bg, sl ++ [0, 0, 0, 0], rs⟩ := hnx
          have QP := hide (fun W => rput_c 0 4 W)
          rw [put04] at QP
          have hcat : bytesOf sl ++ ⟨#[0, 0, 0, 0]⟩ = bytesOf (sl ++ [0, 0, 0, 0]) := bytesOf_app sl [0, 0, 0, 0]
          have hz4 : (⟨#[0, 0, 0, 0]⟩ : ByteArray).size = 4 := rfl
          have HCAT := hide hcat
          have HV := hide hv2
          generalize bytesOf sl = SL at *
          generalize hRS : bytesOf rs = RS at *
          have HRS := hide hRS
          clear hRS
          have hov : ¬ 9223372036854775807 < SL.size + (⟨#[0, 0, 0, 0]⟩ : ByteArray).size := by rw [hz4]; omega
          have hov2 : ¬ 9223372036854775807 < SL.size + 4 := by omega
          have hszl : (SL.size : Int) ≤ 8388608 := by omega
          clear hcat hv2 hnx hr hbs hrs2
          go_wp2_with fail
          refine (QP.out _).mono ?_
          rintro e w5 ⟨rfl, hb⟩
          have HX5 := hide (HX.out.kept hb)
          have HB5 := hide (Bel.then HB.out hb)
          clear hb c0 c1 c2 c3 f0 f1 f2 f3
          obtain ⟨c0, c1, c2, c3, f0, f1, f2, f3⟩ := HX5.out.cells
          go_wp2_with fail
          go_roundw
          case rel =>
            refine ⟨k + 1, by omega, by go_num, ?_, ?_, ?_, HX5, HB5⟩
            · rw [HV2.out, HV.out]
            · rw [HV2.out, HV.out, HCAT.out]
            · rw [HV2.out, HV.out, HRS.out]
          case measure => simp [intOf]; omega
        · have hv2 : V2 = ⟨bg - r.size, sl ++ [hiB (bg - r.size), loB (bg - r.size), hiB r.size, loB r.size], r.data.toList ++ rs⟩ := by
            rw [hnx]
            unfold layS
            rw [if_neg hr]
          rw [hv2] at hat2
          dsimp only at hat2
          obtain ⟨nb, hnb⟩ : ∃ nb, bg - r.size = nb := ⟨_, rfl⟩
          rw [hnb] at hv2 hat2
          have hnbw : IntKind.i64.wrap ((bg : Int) - (r.size : Int)) = (nb : Int) := by rw [IntWalk.i64_in _ (by omega)]; omega
          have e1 : (r.toList == []) = false := by
            cases hq : r.toList with
            | nil => exact absurd (by have := congrArg List.length hq; rw [ByteArray.toList_eq] at this; simpa using this) hr
            | cons a t => rfl
          have QP := hide (fun W => rput_c nb 2 W)
          have QP2 := hide (fun W => rput_c r.size 2 W)
          have hp1 := put2_hl (x := nb) (by omega)
          have hp2 := put2_hl (x := r.size) (by omega)
          have hcat : bytesOf sl ++ (putP nb 2 ++ putP r.size 2) = bytesOf (sl ++ [hiB nb, loB nb, hiB r.size, loB r.size]) := by
            rw [hp1, hp2, bytesOf_app, bytesOf_app]
            rfl
          have hs1 : (putP nb 2).size = 2 := by rw [hp1, bytesOf_size]; rfl
          have hs2 : (putP r.size 2).size = 2 := by rw [hp2, bytesOf_size]; rfl
          have hcat2 : r ++ bytesOf rs = bytesOf (r.data.toList ++ rs) := by rw [← bytesOf_app, bytesOf_bl]
          have HCAT := hide hcat
          have HCAT2 := hide hcat2
          have HV := hide hv2
          generalize putP nb 2 = P1 at *
          generalize putP r.size 2 = P2 at *
          generalize bytesOf sl = SL at *
          generalize bytesOf rs = RS at *
          have hs3 : (P1 ++ P2).size = 4 := by rw [app_size, hs1, hs2]
          have ho1 : ¬ 9223372036854775807 < P1.size + P2.size := by omega
          have ho2 : ¬ 9223372036854775807 < SL.size + (P1 ++ P2).size := by omega
          have ho3 : ¬ 9223372036854775807 < r.size + RS.size := by omega
          have hz1 : (SL.size : Int) ≤ 8388608 := by omega
          have hz2 : (RS.size : Int) ≤ 8388608 := by omega
          have hz3 : (r.size : Int) ≤ 8388608 := by omega
          have ho4 : ¬ 9223372036854775807 < SL.size + 4 := by omega
          clear hbs hrs2 hcat hcat2 hv2 hnx hr hp1 hp2 hat2 hat' hsl hrl hst hst0 hnb
          go_upto_region 12 with (fail)
          refine wp_region_held_drew (S := (fun w' => PBx w' w.heap.size x y z (.slice (some ⟨b, off, none⟩) T c) ∧ Below w.heap.size w w')) (by kernel_rfl) (⟨HX.out.kept (Below.refl _ _).drew, HB.out.drew⟩) (fun hHeld => ?_)
          first | (refine wpAnyH_take (i := 0) (v := ?_) nth0 (by kernel_rfl) (by kernel_rfl) (by kernel_rfl) (fun _ _ _ h => h) (Or.inl ⟨by rfl, ?_⟩) hHeld ?_; rotate_left; focus (intro wS hSw; (have dd := HD.out _ hSw.2; obtain ⟨q0, q1, q2, q3, y0, y1, y2, y3⟩ := hSw.1.cells); go_simp; try with_reducible rfl; done)) | (refine wpAnyH_take (i := 0) (v := undef) nth0 (by kernel_rfl) (by kernel_rfl) (by kernel_rfl) (fun _ _ _ h => h) (Or.inr ⟨by rfl, rfl⟩) hHeld ?_)
          (try simp only [Act.put]); (try simp only [List.setIfInBounds_toArray]); (try simp only [List.set_cons_succ]); (try simp only [List.set_cons_zero])
          first | (refine wpAnyH_take (i := 1) (v := ?_) nth1 (by kernel_rfl) (by kernel_rfl) (by kernel_rfl) (fun _ _ _ h => h) (Or.inl ⟨by rfl, ?_⟩) hHeld ?_; rotate_left; focus (intro wS hSw; (have dd := HD.out _ hSw.2; obtain ⟨q0, q1, q2, q3, y0, y1, y2, y3⟩ := hSw.1.cells); go_simp; try with_reducible rfl; done)) | (refine wpAnyH_take (i := 1) (v := undef) nth1 (by kernel_rfl) (by kernel_rfl) (by kernel_rfl) (fun _ _ _ h => h) (Or.inr ⟨by rfl, rfl⟩) hHeld ?_)
          (try simp only [Act.put]); (try simp only [List.setIfInBounds_toArray]); (try simp only [List.set_cons_succ]); (try simp only [List.set_cons_zero])
          first | (refine wpAnyH_take (i := 3) (v := ?_) nth3 (by kernel_rfl) (by kernel_rfl) (by kernel_rfl) (fun _ _ _ h => h) (Or.inl ⟨by rfl, ?_⟩) hHeld ?_; rotate_left; focus (intro wS hSw; (have dd := HD.out _ hSw.2; obtain ⟨q0, q1, q2, q3, y0, y1, y2, y3⟩ := hSw.1.cells); go_simp; try with_reducible rfl; done)) | (refine wpAnyH_take (i := 3) (v := undef) nth3 (by kernel_rfl) (by kernel_rfl) (by kernel_rfl) (fun _ _ _ h => h) (Or.inr ⟨by rfl, rfl⟩) hHeld ?_)
          (try simp only [Act.put]); (try simp only [List.setIfInBounds_toArray]); (try simp only [List.set_cons_succ]); (try simp only [List.set_cons_zero])
          first | (refine wpAnyH_take (i := 4) (v := ?_) nth4 (by kernel_rfl) (by kernel_rfl) (by kernel_rfl) (fun _ _ _ h => h) (Or.inl ⟨by rfl, ?_⟩) hHeld ?_; rotate_left; focus (intro wS hSw; (have dd := HD.out _ hSw.2; obtain ⟨q0, q1, q2, q3, y0, y1, y2, y3⟩ := hSw.1.cells); go_simp; try with_reducible rfl; done)) | (refine wpAnyH_take (i := 4) (v := undef) nth4 (by kernel_rfl) (by kernel_rfl) (by kernel_rfl) (fun _ _ _ h => h) (Or.inr ⟨by rfl, rfl⟩) hHeld ?_)
          (try simp only [Act.put]); (try simp only [List.setIfInBounds_toArray]); (try simp only [List.set_cons_succ]); (try simp only [List.set_cons_zero])
          first | (refine wpAnyH_take (i := 5) (v := ?_) nth5 (by kernel_rfl) (by kernel_rfl) (by kernel_rfl) (fun _ _ _ h => h) (Or.inl ⟨by rfl, ?_⟩) hHeld ?_; rotate_left; focus (intro wS hSw; (have dd := HD.out _ hSw.2; obtain ⟨q0, q1, q2, q3, y0, y1, y2, y3⟩ := hSw.1.cells); go_simp; try with_reducible rfl; done)) | (refine wpAnyH_take (i := 5) (v := undef) nth5 (by kernel_rfl) (by kernel_rfl) (by kernel_rfl) (fun _ _ _ h => h) (Or.inr ⟨by rfl, rfl⟩) hHeld ?_)
          (try simp only [Act.put]); (try simp only [List.setIfInBounds_toArray]); (try simp only [List.set_cons_succ]); (try simp only [List.set_cons_zero])
          first | (refine wpAnyH_take (i := 6) (v := ?_) nth6 (by kernel_rfl) (by kernel_rfl) (by kernel_rfl) (fun _ _ _ h => h) (Or.inl ⟨by rfl, ?_⟩) hHeld ?_; rotate_left; focus (intro wS hSw; (have dd := HD.out _ hSw.2; obtain ⟨q0, q1, q2, q3, y0, y1, y2, y3⟩ := hSw.1.cells); go_simp; try with_reducible rfl; done)) | (refine wpAnyH_take (i := 6) (v := undef) nth6 (by kernel_rfl) (by kernel_rfl) (by kernel_rfl) (fun _ _ _ h => h) (Or.inr ⟨by rfl, rfl⟩) hHeld ?_)
          (try simp only [Act.put]); (try simp only [List.setIfInBounds_toArray]); (try simp only [List.set_cons_succ]); (try simp only [List.set_cons_zero])
          first | (refine wpAnyH_take (i := 7) (v := ?_) nth7 (by kernel_rfl) (by kernel_rfl) (by kernel_rfl) (fun _ _ _ h => h) (Or.inl ⟨by rfl, ?_⟩) hHeld ?_; rotate_left; focus (intro wS hSw; (have dd := HD.out _ hSw.2; obtain ⟨q0, q1, q2, q3, y0, y1, y2, y3⟩ := hSw.1.cells); go_simp; try with_reducible rfl; done)) | (refine wpAnyH_take (i := 7) (v := undef) nth7 (by kernel_rfl) (by kernel_rfl) (by kernel_rfl) (fun _ _ _ h => h) (Or.inr ⟨by rfl, rfl⟩) hHeld ?_)
          (try simp only [Act.put]); (try simp only [List.setIfInBounds_toArray]); (try simp only [List.set_cons_succ]); (try simp only [List.set_cons_zero])
          first | (refine wpAnyH_take (i := 8) (v := ?_) nth8 (by kernel_rfl) (by kernel_rfl) (by kernel_rfl) (fun _ _ _ h => h) (Or.inl ⟨by rfl, ?_⟩) hHeld ?_; rotate_left; focus (intro wS hSw; (have dd := HD.out _ hSw.2; obtain ⟨q0, q1, q2, q3, y0, y1, y2, y3⟩ := hSw.1.cells); go_simp; try with_reducible rfl; done)) | (refine wpAnyH_take (i := 8) (v := undef) nth8 (by kernel_rfl) (by kernel_rfl) (by kernel_rfl) (fun _ _ _ h => h) (Or.inr ⟨by rfl, rfl⟩) hHeld ?_)
          (try simp only [Act.put]); (try simp only [List.setIfInBounds_toArray]); (try simp only [List.set_cons_succ]); (try simp only [List.set_cons_zero])
          refine wpAnyH_ready (rs := [2]) (by kernel_rfl) (by simp) ?_
          refine AllReadyH.cons nth2 (fun K hK => ?_) AllReadyH.nil
          go_simp
          (first | (with_reducible refine (QP.out _).mono ?_; rintro e w' ⟨rfl, hb⟩) | (with_reducible refine (QP2.out _).mono ?_; rintro e w' ⟨rfl, hb⟩))
          refine hK.out _ _ (⟨hHeld.1.kept hb, Bel.then hHeld.2 hb⟩) (fun hHeld => ?_)
          clear hK K
          (try simp only [Act.put]); (try simp only [List.setIfInBounds_toArray]); (try simp only [List.set_cons_succ]); (try simp only [List.set_cons_zero])
          refine wpAnyH_ready (rs := [9]) (by kernel_rfl) (by simp) ?_
          refine AllReadyH.cons nth9 (fun K hK => ?_) AllReadyH.nil
          go_simp
          (first | (with_reducible refine (QP.out _).mono ?_; rintro e w' ⟨rfl, hb⟩) | (with_reducible refine (QP2.out _).mono ?_; rintro e w' ⟨rfl, hb⟩))
          refine hK.out _ _ (⟨hHeld.1.kept hb, Bel.then hHeld.2 hb⟩) (fun hHeld => ?_)
          clear hK K
          (try simp only [Act.put]); (try simp only [List.setIfInBounds_toArray]); (try simp only [List.set_cons_succ]); (try simp only [List.set_cons_zero])
          first | (refine wpAnyH_take (i := 10) (v := ?_) nth10 (by kernel_rfl) (by kernel_rfl) (by kernel_rfl) (fun _ _ _ h => h) (Or.inl ⟨by rfl, ?_⟩) hHeld ?_; rotate_left; focus (intro wS hSw; (have dd := HD.out _ hSw.2; obtain ⟨q0, q1, q2, q3, y0, y1, y2, y3⟩ := hSw.1.cells); go_simp; try with_reducible rfl; done)) | (refine wpAnyH_take (i := 10) (v := undef) nth10 (by kernel_rfl) (by kernel_rfl) (by kernel_rfl) (fun _ _ _ h => h) (Or.inr ⟨by rfl, rfl⟩) hHeld ?_)
          (try simp only [Act.put]); (try simp only [List.setIfInBounds_toArray]); (try simp only [List.set_cons_succ]); (try simp only [List.set_cons_zero])
          first | (refine wpAnyH_take (i := 11) (v := ?_) nth11 (by kernel_rfl) (by kernel_rfl) (by kernel_rfl) (fun _ _ _ h => h) (Or.inl ⟨by rfl, ?_⟩) hHeld ?_; rotate_left; focus (intro wS hSw; (have dd := HD.out _ hSw.2; obtain ⟨q0, q1, q2, q3, y0, y1, y2, y3⟩ := hSw.1.cells); go_simp; try with_reducible rfl; done)) | (refine wpAnyH_take (i := 11) (v := undef) nth11 (by kernel_rfl) (by kernel_rfl) (by kernel_rfl) (fun _ _ _ h => h) (Or.inr ⟨by rfl, rfl⟩) hHeld ?_)
          (try simp only [Act.put]); (try simp only [List.setIfInBounds_toArray]); (try simp only [List.set_cons_succ]); (try simp only [List.set_cons_zero])
          first | (refine wpAnyH_take (i := 12) (v := ?_) nth12 (by kernel_rfl) (by kernel_rfl) (by kernel_rfl) (fun _ _ _ h => h) (Or.inl ⟨by rfl, ?_⟩) hHeld ?_; rotate_left; focus (intro wS hSw; (have dd := HD.out _ hSw.2; obtain ⟨q0, q1, q2, q3, y0, y1, y2, y3⟩ := hSw.1.cells); go_simp; try with_reducible rfl; done)) | (refine wpAnyH_take (i := 12) (v := undef) nth12 (by kernel_rfl) (by kernel_rfl) (by kernel_rfl) (fun _ _ _ h => h) (Or.inr ⟨by rfl, rfl⟩) hHeld ?_)
          (try simp only [Act.put]); (try simp only [List.setIfInBounds_toArray]); (try simp only [List.set_cons_succ]); (try simp only [List.set_cons_zero])
          refine wpAnyH_done (by kernel_rfl) ?_ _
          have HX5 := hide hHeld.1
          have HB5 := hide hHeld.2
          clear hHeld c0 c1 c2 c3 f0 f1 f2 f3 d0
          obtain ⟨c0, c1, c2, c3, f0, f1, f2, f3⟩ := HX5.out.cells
          have d0 := HD.out _ HB5.out
          go_wp2_with fail
          go_roundw
          case rel =>
            refine ⟨k + 1, by omega, by go_num, ?_, ?_, ?_, HX5, HB5⟩
            · rw [HV2.out, HV.out]
            · rw [HV2.out, HV.out, HCAT.out]
            · rw [HV2.out, HV.out, HCAT2.out]
          case measure => simp [intOf]; omega
      · have hlti : ¬ (k : Int) < T := by omega
        obtain rfl : k = T := by omega
        have hok := HOK.out k hk
        have e2 : l2.take k = l2 := by rw [List.take_of_length_le (by rw [HL2.out]; exact Nat.le_refl _)]
        rw [e2] at hok ⊢
        have hh := HR5.out
        rw [show layL ⟨x, y, z, l2⟩ = ((headL ⟨x, y, z, l2⟩ (layF l2).at' ++ bytesOf (layF l2).slots) ++ zrs ((layF l2).at' - 19 - 4 * l2.length)) ++ bytesOf (layF l2).recs from rfl, HL2.out] at hh
        have h1 := hok.at'
        have h2 := hok.slots
        have h3 := hok.recs
        rw [HL2.out] at h2
        clear hok
        have hhd := headR ⟨x, y, z, l2⟩ (layF l2).at' hy
        dsimp only at hhd
        rw [HL2.out] at hhd
        rw [← hhd] at hh
        have hbs := bytesOf_size (layF l2).slots
        have hrs2 := bytesOf_size (layF l2).recs
        generalize bytesOf (layF l2).slots = SL at *
        generalize bytesOf (layF l2).recs = RS at *
        generalize (layF l2).at' = bg at *
        obtain ⟨gk, hgk⟩ : ∃ gk, bg - 19 - 4 * k = gk := ⟨_, rfl⟩
        rw [hgk] at hh
        have hw1 : IntKind.i64.wrap ((bg : Int) - 19) = ((bg - 19 : Nat) : Int) := by rw [IntWalk.i64_in _ (by omega)]; omega
        have hw2 : IntKind.i64.wrap (((bg - 19 : Nat) : Int) - (SL.size : Int)) = (gk : Int) := by rw [IntWalk.i64_in _ (by omega)]; omega
        have hmk := mkN gk (by omega)
        have hcv := cvN gk
        have q1 := hide (fun W => rput_c 0 4 W)
        have q2 := hide (fun W => rput_c x 6 W)
        have q3 := hide (fun W => rput_c y 1 W)
        have q4 := hide (fun W => rput_c 0 1 W)
        have q5 := hide (fun W => rput_c z 3 W)
        have q6 := hide (fun W => rput_c k 2 W)
        have q7 := hide (fun W => rput_c bg 2 W)
        have t1 : (putP 0 4).size = 4 := by rw [put04]; rfl
        have t2 : (putP x 6).size = 6 := by rw [show ((6 : Int)) = ((6 : Nat) : Int) from rfl, putP_in _ 6 (by omega), strOf_size, putL_len]
        have t3 : (putP y 1).size = 1 := by rw [show ((1 : Int)) = ((1 : Nat) : Int) from rfl, putP_in _ 1 (by omega), strOf_size, putL_len]
        have t4 : (putP 0 1).size = 1 := by rw [show ((1 : Int)) = ((1 : Nat) : Int) from rfl, putP_in _ 1 (by omega), strOf_size, putL_len]
        have t5 : (putP z 3).size = 3 := by rw [show ((3 : Int)) = ((3 : Nat) : Int) from rfl, putP_in _ 3 (by omega), strOf_size, putL_len]
        have t6 : (putP k 2).size = 2 := by rw [show ((2 : Int)) = ((2 : Nat) : Int) from rfl, putP_in _ 2 (by omega), strOf_size, putL_len]
        have t7 : (putP bg 2).size = 2 := by rw [show ((2 : Int)) = ((2 : Nat) : Int) from rfl, putP_in _ 2 (by omega), strOf_size, putL_len]
        have hzk := zrs_size gk
        generalize putP 0 4 = P1 at *
        generalize putP x 6 = P2 at *
        generalize putP y 1 = P3 at *
        generalize putP 0 1 = P4 at *
        generalize putP z 3 = P5 at *
        generalize putP k 2 = P6 at *
        generalize putP bg 2 = P7 at *
        generalize zrs gk = ZZ at *
        have s2 : (P1 ++ P2).size = 10 := by rw [app_size, t1, t2]
        have s3 : (P1 ++ P2 ++ P3).size = 11 := by rw [app_size, s2, t3]
        have s4 : (P1 ++ P2 ++ P3 ++ P4).size = 12 := by rw [app_size, s3, t4]
        have s5 : (P1 ++ P2 ++ P3 ++ P4 ++ P5).size = 15 := by rw [app_size, s4, t5]
        have s6 : (P1 ++ P2 ++ P3 ++ P4 ++ P5 ++ P6).size = 17 := by rw [app_size, s5, t6]
        have s7 : (P1 ++ P2 ++ P3 ++ P4 ++ P5 ++ P6 ++ P7).size = 19 := by rw [app_size, s6, t7]
        have s8 : (P1 ++ P2 ++ P3 ++ P4 ++ P5 ++ P6 ++ P7 ++ SL).size = 19 + 4 * k := by rw [app_size, s7]; omega
        have s9 : (P1 ++ P2 ++ P3 ++ P4 ++ P5 ++ P6 ++ P7 ++ SL ++ ZZ).size = bg := by rw [app_size, s8]; omega
        have HH := hide hh
        have hsl : (SL.size : Int) ≤ 8388608 := by omega
        have hrl : (RS.size : Int) ≤ 8388608 := by omega
        have o1 : ¬ 9223372036854775807 < (P1 ++ P2 ++ P3 ++ P4 ++ P5 ++ P6 ++ P7).size + SL.size := by omega
        have o2 : ¬ 9223372036854775807 < (P1 ++ P2 ++ P3 ++ P4 ++ P5 ++ P6 ++ P7 ++ SL).size + ZZ.size := by omega
        have o3 : ¬ 9223372036854775807 < (P1 ++ P2 ++ P3 ++ P4 ++ P5 ++ P6 ++ P7 ++ SL ++ ZZ).size + RS.size := by omega
        clear hh hhd h1 h2 h3 hbs hrs2 hgk hsum e2 HOK HNX HST HAT HR5 H2 H3
        go_upto_region 14 with (fail)
        refine wp_region_held_drew (S := (fun w' => PBx w' w.heap.size x y z (.slice A k c) ∧ Below w.heap.size w w')) (by kernel_rfl) (⟨HX.out.kept (Below.refl _ _).drew, HB.out.drew⟩) (fun hHeld => ?_)
        first | (refine wpAnyH_take (i := 1) (v := ?_) nth1 (by kernel_rfl) (by kernel_rfl) (by kernel_rfl) (fun _ _ _ h => h) (Or.inl ⟨by rfl, ?_⟩) hHeld ?_; rotate_left; focus (intro wS hSw; (obtain ⟨q0, q1, q2, q3, y0, y1, y2, y3⟩ := hSw.1.cells); go_simp; try with_reducible rfl; done)) | (refine wpAnyH_take (i := 1) (v := undef) nth1 (by kernel_rfl) (by kernel_rfl) (by kernel_rfl) (fun _ _ _ h => h) (Or.inr ⟨by rfl, rfl⟩) hHeld ?_)
        (try simp only [Act.put]); (try simp only [List.setIfInBounds_toArray]); (try simp only [List.set_cons_succ]); (try simp only [List.set_cons_zero])
        first | (refine wpAnyH_take (i := 2) (v := ?_) nth2 (by kernel_rfl) (by kernel_rfl) (by kernel_rfl) (fun _ _ _ h => h) (Or.inl ⟨by rfl, ?_⟩) hHeld ?_; rotate_left; focus (intro wS hSw; (obtain ⟨q0, q1, q2, q3, y0, y1, y2, y3⟩ := hSw.1.cells); go_simp; try with_reducible rfl; done)) | (refine wpAnyH_take (i := 2) (v := undef) nth2 (by kernel_rfl) (by kernel_rfl) (by kernel_rfl) (fun _ _ _ h => h) (Or.inr ⟨by rfl, rfl⟩) hHeld ?_)
        (try simp only [Act.put]); (try simp only [List.setIfInBounds_toArray]); (try simp only [List.set_cons_succ]); (try simp only [List.set_cons_zero])
        first | (refine wpAnyH_take (i := 5) (v := ?_) nth5 (by kernel_rfl) (by kernel_rfl) (by kernel_rfl) (fun _ _ _ h => h) (Or.inl ⟨by rfl, ?_⟩) hHeld ?_; rotate_left; focus (intro wS hSw; (obtain ⟨q0, q1, q2, q3, y0, y1, y2, y3⟩ := hSw.1.cells); go_simp; try with_reducible rfl; done)) | (refine wpAnyH_take (i := 5) (v := undef) nth5 (by kernel_rfl) (by kernel_rfl) (by kernel_rfl) (fun _ _ _ h => h) (Or.inr ⟨by rfl, rfl⟩) hHeld ?_)
        (try simp only [Act.put]); (try simp only [List.setIfInBounds_toArray]); (try simp only [List.set_cons_succ]); (try simp only [List.set_cons_zero])
        first | (refine wpAnyH_take (i := 6) (v := ?_) nth6 (by kernel_rfl) (by kernel_rfl) (by kernel_rfl) (fun _ _ _ h => h) (Or.inl ⟨by rfl, ?_⟩) hHeld ?_; rotate_left; focus (intro wS hSw; (obtain ⟨q0, q1, q2, q3, y0, y1, y2, y3⟩ := hSw.1.cells); go_simp; try with_reducible rfl; done)) | (refine wpAnyH_take (i := 6) (v := undef) nth6 (by kernel_rfl) (by kernel_rfl) (by kernel_rfl) (fun _ _ _ h => h) (Or.inr ⟨by rfl, rfl⟩) hHeld ?_)
        (try simp only [Act.put]); (try simp only [List.setIfInBounds_toArray]); (try simp only [List.set_cons_succ]); (try simp only [List.set_cons_zero])
        first | (refine wpAnyH_take (i := 11) (v := ?_) nth11 (by kernel_rfl) (by kernel_rfl) (by kernel_rfl) (fun _ _ _ h => h) (Or.inl ⟨by rfl, ?_⟩) hHeld ?_; rotate_left; focus (intro wS hSw; (obtain ⟨q0, q1, q2, q3, y0, y1, y2, y3⟩ := hSw.1.cells); go_simp; try with_reducible rfl; done)) | (refine wpAnyH_take (i := 11) (v := undef) nth11 (by kernel_rfl) (by kernel_rfl) (by kernel_rfl) (fun _ _ _ h => h) (Or.inr ⟨by rfl, rfl⟩) hHeld ?_)
        (try simp only [Act.put]); (try simp only [List.setIfInBounds_toArray]); (try simp only [List.set_cons_succ]); (try simp only [List.set_cons_zero])
        first | (refine wpAnyH_take (i := 12) (v := ?_) nth12 (by kernel_rfl) (by kernel_rfl) (by kernel_rfl) (fun _ _ _ h => h) (Or.inl ⟨by rfl, ?_⟩) hHeld ?_; rotate_left; focus (intro wS hSw; (obtain ⟨q0, q1, q2, q3, y0, y1, y2, y3⟩ := hSw.1.cells); go_simp; try with_reducible rfl; done)) | (refine wpAnyH_take (i := 12) (v := undef) nth12 (by kernel_rfl) (by kernel_rfl) (by kernel_rfl) (fun _ _ _ h => h) (Or.inr ⟨by rfl, rfl⟩) hHeld ?_)
        (try simp only [Act.put]); (try simp only [List.setIfInBounds_toArray]); (try simp only [List.set_cons_succ]); (try simp only [List.set_cons_zero])
        first | (refine wpAnyH_take (i := 15) (v := ?_) nth15 (by kernel_rfl) (by kernel_rfl) (by kernel_rfl) (fun _ _ _ h => h) (Or.inl ⟨by rfl, ?_⟩) hHeld ?_; rotate_left; focus (intro wS hSw; (obtain ⟨q0, q1, q2, q3, y0, y1, y2, y3⟩ := hSw.1.cells); go_simp; try with_reducible rfl; done)) | (refine wpAnyH_take (i := 15) (v := undef) nth15 (by kernel_rfl) (by kernel_rfl) (by kernel_rfl) (fun _ _ _ h => h) (Or.inr ⟨by rfl, rfl⟩) hHeld ?_)
        (try simp only [Act.put]); (try simp only [List.setIfInBounds_toArray]); (try simp only [List.set_cons_succ]); (try simp only [List.set_cons_zero])
        first | (refine wpAnyH_take (i := 16) (v := ?_) nth16 (by kernel_rfl) (by kernel_rfl) (by kernel_rfl) (fun _ _ _ h => h) (Or.inl ⟨by rfl, ?_⟩) hHeld ?_; rotate_left; focus (intro wS hSw; (obtain ⟨q0, q1, q2, q3, y0, y1, y2, y3⟩ := hSw.1.cells); go_simp; try with_reducible rfl; done)) | (refine wpAnyH_take (i := 16) (v := undef) nth16 (by kernel_rfl) (by kernel_rfl) (by kernel_rfl) (fun _ _ _ h => h) (Or.inr ⟨by rfl, rfl⟩) hHeld ?_)
        (try simp only [Act.put]); (try simp only [List.setIfInBounds_toArray]); (try simp only [List.set_cons_succ]); (try simp only [List.set_cons_zero])
        first | (refine wpAnyH_take (i := 17) (v := ?_) nth17 (by kernel_rfl) (by kernel_rfl) (by kernel_rfl) (fun _ _ _ h => h) (Or.inl ⟨by rfl, ?_⟩) hHeld ?_; rotate_left; focus (intro wS hSw; (obtain ⟨q0, q1, q2, q3, y0, y1, y2, y3⟩ := hSw.1.cells); go_simp; try with_reducible rfl; done)) | (refine wpAnyH_take (i := 17) (v := undef) nth17 (by kernel_rfl) (by kernel_rfl) (by kernel_rfl) (fun _ _ _ h => h) (Or.inr ⟨by rfl, rfl⟩) hHeld ?_)
        (try simp only [Act.put]); (try simp only [List.setIfInBounds_toArray]); (try simp only [List.set_cons_succ]); (try simp only [List.set_cons_zero])
        first | (refine wpAnyH_take (i := 20) (v := ?_) nth20 (by kernel_rfl) (by kernel_rfl) (by kernel_rfl) (fun _ _ _ h => h) (Or.inl ⟨by rfl, ?_⟩) hHeld ?_; rotate_left; focus (intro wS hSw; (obtain ⟨q0, q1, q2, q3, y0, y1, y2, y3⟩ := hSw.1.cells); go_simp; try with_reducible rfl; done)) | (refine wpAnyH_take (i := 20) (v := undef) nth20 (by kernel_rfl) (by kernel_rfl) (by kernel_rfl) (fun _ _ _ h => h) (Or.inr ⟨by rfl, rfl⟩) hHeld ?_)
        (try simp only [Act.put]); (try simp only [List.setIfInBounds_toArray]); (try simp only [List.set_cons_succ]); (try simp only [List.set_cons_zero])
        refine wpAnyH_ready (rs := [0]) (by kernel_rfl) (by simp) ?_
        refine AllReadyH.cons nth0 (fun K hK => ?_) AllReadyH.nil
        go_simp
        (first | (with_reducible refine (q1.out _).mono ?_; rintro e w' ⟨rfl, hb⟩) | (with_reducible refine (q2.out _).mono ?_; rintro e w' ⟨rfl, hb⟩) | (with_reducible refine (q3.out _).mono ?_; rintro e w' ⟨rfl, hb⟩) | (with_reducible refine (q4.out _).mono ?_; rintro e w' ⟨rfl, hb⟩) | (with_reducible refine (q5.out _).mono ?_; rintro e w' ⟨rfl, hb⟩) | (with_reducible refine (q6.out _).mono ?_; rintro e w' ⟨rfl, hb⟩) | (with_reducible refine (q7.out _).mono ?_; rintro e w' ⟨rfl, hb⟩))
        refine hK.out _ _ (⟨hHeld.1.kept hb, Bel.then hHeld.2 hb⟩) (fun hHeld => ?_)
        clear hK K
        (try simp only [Act.put]); (try simp only [List.setIfInBounds_toArray]); (try simp only [List.set_cons_succ]); (try simp only [List.set_cons_zero])
        refine wpAnyH_ready (rs := [3]) (by kernel_rfl) (by simp) ?_
        refine AllReadyH.cons nth3 (fun K hK => ?_) AllReadyH.nil
        go_simp
        (first | (with_reducible refine (q1.out _).mono ?_; rintro e w' ⟨rfl, hb⟩) | (with_reducible refine (q2.out _).mono ?_; rintro e w' ⟨rfl, hb⟩) | (with_reducible refine (q3.out _).mono ?_; rintro e w' ⟨rfl, hb⟩) | (with_reducible refine (q4.out _).mono ?_; rintro e w' ⟨rfl, hb⟩) | (with_reducible refine (q5.out _).mono ?_; rintro e w' ⟨rfl, hb⟩) | (with_reducible refine (q6.out _).mono ?_; rintro e w' ⟨rfl, hb⟩) | (with_reducible refine (q7.out _).mono ?_; rintro e w' ⟨rfl, hb⟩))
        refine hK.out _ _ (⟨hHeld.1.kept hb, Bel.then hHeld.2 hb⟩) (fun hHeld => ?_)
        clear hK K
        (try simp only [Act.put]); (try simp only [List.setIfInBounds_toArray]); (try simp only [List.set_cons_succ]); (try simp only [List.set_cons_zero])
        first | (refine wpAnyH_take (i := 4) (v := ?_) nth4 (by kernel_rfl) (by kernel_rfl) (by kernel_rfl) (fun _ _ _ h => h) (Or.inl ⟨by rfl, ?_⟩) hHeld ?_; rotate_left; focus (intro wS hSw; (obtain ⟨q0, q1, q2, q3, y0, y1, y2, y3⟩ := hSw.1.cells); go_simp; try with_reducible rfl; done)) | (refine wpAnyH_take (i := 4) (v := undef) nth4 (by kernel_rfl) (by kernel_rfl) (by kernel_rfl) (fun _ _ _ h => h) (Or.inr ⟨by rfl, rfl⟩) hHeld ?_)
        (try simp only [Act.put]); (try simp only [List.setIfInBounds_toArray]); (try simp only [List.set_cons_succ]); (try simp only [List.set_cons_zero])
        refine wpAnyH_ready (rs := [7]) (by kernel_rfl) (by simp) ?_
        refine AllReadyH.cons nth7 (fun K hK => ?_) AllReadyH.nil
        go_simp
        (first | (with_reducible refine (q1.out _).mono ?_; rintro e w' ⟨rfl, hb⟩) | (with_reducible refine (q2.out _).mono ?_; rintro e w' ⟨rfl, hb⟩) | (with_reducible refine (q3.out _).mono ?_; rintro e w' ⟨rfl, hb⟩) | (with_reducible refine (q4.out _).mono ?_; rintro e w' ⟨rfl, hb⟩) | (with_reducible refine (q5.out _).mono ?_; rintro e w' ⟨rfl, hb⟩) | (with_reducible refine (q6.out _).mono ?_; rintro e w' ⟨rfl, hb⟩) | (with_reducible refine (q7.out _).mono ?_; rintro e w' ⟨rfl, hb⟩))
        refine hK.out _ _ (⟨hHeld.1.kept hb, Bel.then hHeld.2 hb⟩) (fun hHeld => ?_)
        clear hK K
        (try simp only [Act.put]); (try simp only [List.setIfInBounds_toArray]); (try simp only [List.set_cons_succ]); (try simp only [List.set_cons_zero])
        first | (refine wpAnyH_take (i := 8) (v := ?_) nth8 (by kernel_rfl) (by kernel_rfl) (by kernel_rfl) (fun _ _ _ h => h) (Or.inl ⟨by rfl, ?_⟩) hHeld ?_; rotate_left; focus (intro wS hSw; (obtain ⟨q0, q1, q2, q3, y0, y1, y2, y3⟩ := hSw.1.cells); go_simp; try with_reducible rfl; done)) | (refine wpAnyH_take (i := 8) (v := undef) nth8 (by kernel_rfl) (by kernel_rfl) (by kernel_rfl) (fun _ _ _ h => h) (Or.inr ⟨by rfl, rfl⟩) hHeld ?_)
        (try simp only [Act.put]); (try simp only [List.setIfInBounds_toArray]); (try simp only [List.set_cons_succ]); (try simp only [List.set_cons_zero])
        refine wpAnyH_ready (rs := [9]) (by kernel_rfl) (by simp) ?_
        refine AllReadyH.cons nth9 (fun K hK => ?_) AllReadyH.nil
        go_simp
        (first | (with_reducible refine (q1.out _).mono ?_; rintro e w' ⟨rfl, hb⟩) | (with_reducible refine (q2.out _).mono ?_; rintro e w' ⟨rfl, hb⟩) | (with_reducible refine (q3.out _).mono ?_; rintro e w' ⟨rfl, hb⟩) | (with_reducible refine (q4.out _).mono ?_; rintro e w' ⟨rfl, hb⟩) | (with_reducible refine (q5.out _).mono ?_; rintro e w' ⟨rfl, hb⟩) | (with_reducible refine (q6.out _).mono ?_; rintro e w' ⟨rfl, hb⟩) | (with_reducible refine (q7.out _).mono ?_; rintro e w' ⟨rfl, hb⟩))
        refine hK.out _ _ (⟨hHeld.1.kept hb, Bel.then hHeld.2 hb⟩) (fun hHeld => ?_)
        clear hK K
        (try simp only [Act.put]); (try simp only [List.setIfInBounds_toArray]); (try simp only [List.set_cons_succ]); (try simp only [List.set_cons_zero])
        first | (refine wpAnyH_take (i := 10) (v := ?_) nth10 (by kernel_rfl) (by kernel_rfl) (by kernel_rfl) (fun _ _ _ h => h) (Or.inl ⟨by rfl, ?_⟩) hHeld ?_; rotate_left; focus (intro wS hSw; (obtain ⟨q0, q1, q2, q3, y0, y1, y2, y3⟩ := hSw.1.cells); go_simp; try with_reducible rfl; done)) | (refine wpAnyH_take (i := 10) (v := undef) nth10 (by kernel_rfl) (by kernel_rfl) (by kernel_rfl) (fun _ _ _ h => h) (Or.inr ⟨by rfl, rfl⟩) hHeld ?_)
        (try simp only [Act.put]); (try simp only [List.setIfInBounds_toArray]); (try simp only [List.set_cons_succ]); (try simp only [List.set_cons_zero])
        refine wpAnyH_ready (rs := [13]) (by kernel_rfl) (by simp) ?_
        refine AllReadyH.cons nth13 (fun K hK => ?_) AllReadyH.nil
        go_simp
        (first | (with_reducible refine (q1.out _).mono ?_; rintro e w' ⟨rfl, hb⟩) | (with_reducible refine (q2.out _).mono ?_; rintro e w' ⟨rfl, hb⟩) | (with_reducible refine (q3.out _).mono ?_; rintro e w' ⟨rfl, hb⟩) | (with_reducible refine (q4.out _).mono ?_; rintro e w' ⟨rfl, hb⟩) | (with_reducible refine (q5.out _).mono ?_; rintro e w' ⟨rfl, hb⟩) | (with_reducible refine (q6.out _).mono ?_; rintro e w' ⟨rfl, hb⟩) | (with_reducible refine (q7.out _).mono ?_; rintro e w' ⟨rfl, hb⟩))
        refine hK.out _ _ (⟨hHeld.1.kept hb, Bel.then hHeld.2 hb⟩) (fun hHeld => ?_)
        clear hK K
        (try simp only [Act.put]); (try simp only [List.setIfInBounds_toArray]); (try simp only [List.set_cons_succ]); (try simp only [List.set_cons_zero])
        first | (refine wpAnyH_take (i := 14) (v := ?_) nth14 (by kernel_rfl) (by kernel_rfl) (by kernel_rfl) (fun _ _ _ h => h) (Or.inl ⟨by rfl, ?_⟩) hHeld ?_; rotate_left; focus (intro wS hSw; (obtain ⟨q0, q1, q2, q3, y0, y1, y2, y3⟩ := hSw.1.cells); go_simp; try with_reducible rfl; done)) | (refine wpAnyH_take (i := 14) (v := undef) nth14 (by kernel_rfl) (by kernel_rfl) (by kernel_rfl) (fun _ _ _ h => h) (Or.inr ⟨by rfl, rfl⟩) hHeld ?_)
        (try simp only [Act.put]); (try simp only [List.setIfInBounds_toArray]); (try simp only [List.set_cons_succ]); (try simp only [List.set_cons_zero])
        refine wpAnyH_ready (rs := [18]) (by kernel_rfl) (by simp) ?_
        refine AllReadyH.cons nth18 (fun K hK => ?_) AllReadyH.nil
        go_simp
        (first | (with_reducible refine (q1.out _).mono ?_; rintro e w' ⟨rfl, hb⟩) | (with_reducible refine (q2.out _).mono ?_; rintro e w' ⟨rfl, hb⟩) | (with_reducible refine (q3.out _).mono ?_; rintro e w' ⟨rfl, hb⟩) | (with_reducible refine (q4.out _).mono ?_; rintro e w' ⟨rfl, hb⟩) | (with_reducible refine (q5.out _).mono ?_; rintro e w' ⟨rfl, hb⟩) | (with_reducible refine (q6.out _).mono ?_; rintro e w' ⟨rfl, hb⟩) | (with_reducible refine (q7.out _).mono ?_; rintro e w' ⟨rfl, hb⟩))
        refine hK.out _ _ (⟨hHeld.1.kept hb, Bel.then hHeld.2 hb⟩) (fun hHeld => ?_)
        clear hK K
        (try simp only [Act.put]); (try simp only [List.setIfInBounds_toArray]); (try simp only [List.set_cons_succ]); (try simp only [List.set_cons_zero])
        first | (refine wpAnyH_take (i := 19) (v := ?_) nth19 (by kernel_rfl) (by kernel_rfl) (by kernel_rfl) (fun _ _ _ h => h) (Or.inl ⟨by rfl, ?_⟩) hHeld ?_; rotate_left; focus (intro wS hSw; (obtain ⟨q0, q1, q2, q3, y0, y1, y2, y3⟩ := hSw.1.cells); go_simp; try with_reducible rfl; done)) | (refine wpAnyH_take (i := 19) (v := undef) nth19 (by kernel_rfl) (by kernel_rfl) (by kernel_rfl) (fun _ _ _ h => h) (Or.inr ⟨by rfl, rfl⟩) hHeld ?_)
        (try simp only [Act.put]); (try simp only [List.setIfInBounds_toArray]); (try simp only [List.set_cons_succ]); (try simp only [List.set_cons_zero])
        refine wpAnyH_ready (rs := [21]) (by kernel_rfl) (by simp) ?_
        refine AllReadyH.cons nth21 (fun K hK => ?_) AllReadyH.nil
        go_simp
        (first | (with_reducible refine (q1.out _).mono ?_; rintro e w' ⟨rfl, hb⟩) | (with_reducible refine (q2.out _).mono ?_; rintro e w' ⟨rfl, hb⟩) | (with_reducible refine (q3.out _).mono ?_; rintro e w' ⟨rfl, hb⟩) | (with_reducible refine (q4.out _).mono ?_; rintro e w' ⟨rfl, hb⟩) | (with_reducible refine (q5.out _).mono ?_; rintro e w' ⟨rfl, hb⟩) | (with_reducible refine (q6.out _).mono ?_; rintro e w' ⟨rfl, hb⟩) | (with_reducible refine (q7.out _).mono ?_; rintro e w' ⟨rfl, hb⟩))
        refine hK.out _ _ (⟨hHeld.1.kept hb, Bel.then hHeld.2 hb⟩) (fun hHeld => ?_)
        clear hK K
        (try simp only [Act.put]); (try simp only [List.setIfInBounds_toArray]); (try simp only [List.set_cons_succ]); (try simp only [List.set_cons_zero])
        first | (refine wpAnyH_take (i := 22) (v := ?_) nth22 (by kernel_rfl) (by kernel_rfl) (by kernel_rfl) (fun _ _ _ h => h) (Or.inl ⟨by rfl, ?_⟩) hHeld ?_; rotate_left; focus (intro wS hSw; (obtain ⟨q0, q1, q2, q3, y0, y1, y2, y3⟩ := hSw.1.cells); go_simp; try with_reducible rfl; done)) | (refine wpAnyH_take (i := 22) (v := undef) nth22 (by kernel_rfl) (by kernel_rfl) (by kernel_rfl) (fun _ _ _ h => h) (Or.inr ⟨by rfl, rfl⟩) hHeld ?_)
        (try simp only [Act.put]); (try simp only [List.setIfInBounds_toArray]); (try simp only [List.set_cons_succ]); (try simp only [List.set_cons_zero])
        first | (refine wpAnyH_take (i := 23) (v := ?_) nth23 (by kernel_rfl) (by kernel_rfl) (by kernel_rfl) (fun _ _ _ h => h) (Or.inl ⟨by rfl, ?_⟩) hHeld ?_; rotate_left; focus (intro wS hSw; (obtain ⟨q0, q1, q2, q3, y0, y1, y2, y3⟩ := hSw.1.cells); go_simp; try with_reducible rfl; done)) | (refine wpAnyH_take (i := 23) (v := undef) nth23 (by kernel_rfl) (by kernel_rfl) (by kernel_rfl) (fun _ _ _ h => h) (Or.inr ⟨by rfl, rfl⟩) hHeld ?_)
        (try simp only [Act.put]); (try simp only [List.setIfInBounds_toArray]); (try simp only [List.set_cons_succ]); (try simp only [List.set_cons_zero])
        refine wpAnyH_done (by kernel_rfl) ?_ _
        have HB5 := hide hHeld.2
        clear hHeld c0 c1 c2 c3 f0 f1 f2 f3
        go_wp2_with fail
        go_ret
        exact ⟨by rw [HH.out]; rfl, (HB5.out.alloc HB5.out.size _)⟩
  · have hR := HR.out
    rw [if_neg h5] at hR
    subst hR
    have hd : decide (sizeN l2 ≤ 512) = false := decide_eq_false h5
    rw [hd]
    clear hd h5
    go_wp2_with fail
    go_ret
    exact ⟨rfl, HB.out⟩
end Go.Proofs.YtfdedkcidemimaaDoor
