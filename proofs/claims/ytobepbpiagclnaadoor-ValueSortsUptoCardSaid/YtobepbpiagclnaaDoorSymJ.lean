/- The walk of the reference's Sorted. -/
import Derived.Test.YtobepbpiagclnaaDoorSymI
import Derived.Test.YtobepbpiagclnaaDoorValGd
namespace Go.Proofs.YtobepbpiagclnaaDoor
set_option linter.unusedVariables false
open Go.ChangeShapes Go.WideShapes Go.ChangeAt Go.RowKit

set_option maxRecDepth 100000 in
set_option maxHeartbeats 8000000 in
theorem rsorted_c (A : Option Addr) (n c : Nat) (ps : List HRow) (w : World) (h : HsAt w A n c ps) (hn : n ≤ 1048576) (hg : ∀ p ∈ ps, StrsOk p.2 ∧ p.2.length ≤ 1048576) :
    Calls Tryd.prog 9 #[.slice A n c] w (GivesRs w n (sortedF (sndL ps))) := by
  obtain ⟨i0, hi0, hz0, hz1, hz2⟩ := info_parts row_info
  have hl := h.sl.len
  have HP := hide h
  have HG := hide hg
  have HLen : Hid ((sndL ps).length = n) := by show (ps.map Prod.snd).length = n; rw [List.length_map]; exact hl
  have HM0 := hide (show SortSt w (w.alloc (.cells #[] 26)) (.slice (some ⟨w.heap.size, 0, none⟩) 0 0) [] from ⟨Bel.one w _, ⟨World.ownsRow_lit (base := w.heap.size) (e := 26) (size := 1) w #[] 0 (Nat.le_refl _) (by simp [maxLen]) rfl, by simp⟩⟩)
  have HI0 : Hid (sndL ([] : List HRow) = ((sndL ps).take 0).foldl insF []) := rfl
  clear h hg
  go_enter Tryd.func9, Tryd.ntmps9
  go_upto_region 2 with (fail)
  generalize w.alloc (.cells #[] 26) = w0 at *
  generalize w.heap.size = ob at HM0 ⊢
  go_wp2_with fail
  go_loopw [3, 4] (fun ov iv wr => ∃ (i : Nat) (X : Option Addr) (cx : Nat) (os : List HRow), i ≤ n ∧ iv = .int .i64 i ∧ ov = .slice X i cx ∧ os.length = i ∧ Hid (SortSt w wr (.slice X i cx) os) ∧ Hid (sndL os = ((sndL ps).take i).foldl insF [])) (fun _ iv _ => n - (intOf iv).toNat)
  case atStart => exact ⟨0, _, 0, [], Nat.zero_le _, rfl, rfl, rfl, HM0, HI0⟩
  case round =>
    clear HM0 HI0
    obtain ⟨i, X, cx, os, hin, rfl, rfl, hos, HM, HI⟩ := hrel
    by_cases hlt : i < n
    · have hlti : (i : Int) < n := by omega
      have hwi : IntKind.i64.wrap ((i : Int) + 1) = (i : Int) + 1 := IntWalk.i64_in _ (by omega)
      obtain ⟨b, off, p, rfl, hpi, _⟩ := HP.out.head hlt
      have hgp := HG.out p (List.mem_of_getElem? hpi)
      have HPr := hide (HP.out.each p (List.mem_of_getElem? hpi))
      have hsi : (sndL ps)[i]? = some p.2 := by show (ps.map Prod.snd)[i]? = _; rw [List.getElem?_map, hpi]; rfl
      obtain ⟨⟨pA, pn, pc⟩, p2⟩ := p
      simp only at hgp HPr hsi
      have hpl : pn ≤ 1048576 := by have := HPr.out.len; have := hgp.2; omega
      have hgo : ∀ q ∈ os, StrsOk q.2 := fun q hq => by
        have hm : q.2 ∈ sndL os := List.mem_map.2 ⟨q, hq, rfl⟩
        rw [HI.out] at hm
        have hm2 := (sorted_fold ((sndL ps).take i) []).1.mem_iff.1 hm
        rw [List.nil_append] at hm2
        obtain ⟨p', hp', e⟩ := List.mem_map.1 (List.mem_of_mem_take hm2)
        rw [← e]
        exact (HG.out p' hp').1
      have hki : placeF (sndL os) p2 ≤ i := by have := placeF_le (sndL os) p2; have h2 : (sndL os).length = os.length := List.length_map _; omega
      have HI2 : Hid ((sndL os).take (placeF (sndL os) p2) ++ p2 :: (sndL os).drop (placeF (sndL os) p2) = ((sndL ps).take (i + 1)).foldl insF []) := by
        show _ = _
        rw [take_at hsi, List.foldl_append, ← HI.out]
        rfl
      have Q := hide (place_c X pA i cx pn pc os p2 wr HM.out.2.hs (HPr.out.kept HM.out.1) hgo hgp.1)
      have Ha := (HP.out.kept HM.out.1).headAt hpi
      obtain ⟨k, hk⟩ : ∃ k, placeF (sndL os) p2 = k := ⟨_, rfl⟩
      rw [hk] at hki HI2 Q
      unfold sndL at HI2
      rw [← List.map_take, ← List.map_drop] at HI2
      obtain ⟨_, a_0⟩ := Ha
      clear hgp hsi hgo hk HI
      have HI := HI2
      clear HI2
      go_wp2_with fail
      refine Q.out.mono ?_
      rintro e wk ⟨rfl, hb⟩
      replace HM := hide (HM.out.kept hb)
      clear hb Q a_0
      go_upto_region 6 with (fail)
      have hsA := HM.out.2.hs
      have hcx := hsA.sl.cap
      have hfr := fun W => front_run (A := X) (n := i) (c := cx) (k := k) (by omega) W
      have hbk := fun W => back_run (A := X) (n := i) (c := cx) (j := k) hki W
      have HF := hide (hs_front hsA hki)
      have HD := hide (hs_back hsA hki)
      have HB := hide (Below.refl wk.heap.size wk)
      have HS := hide (fun (W : World) (hW : Below wk.heap.size wk W) => HM.out.2.kept hW)
      have HW := hide HM.out.1
      have hl1 : (os.take k).length = k := by rw [List.length_take]; omega
      have hl2 : (os.drop k).length = i - k := by rw [List.length_drop]; omega
      have HMm : Hid (∀ p ∈ os.take k ++ os.drop k, p ∈ os) := fun p hp => by rw [List.take_append_drop] at hp; exact hp
      have HBase := hide (Nat.le_trans (Below.refl w.heap.size w).size HM.out.1.size)
      generalize os.take k = L1 at *
      generalize os.drop k = L2 at *
      generalize fstA cx X = X1 at *
      generalize sndA cx k X = X2 at *
      obtain ⟨m2, hm2⟩ : ∃ m2, i - k = m2 := ⟨_, rfl⟩
      rw [hm2] at hbk HD hl2
      generalize cx - k = cx2 at *
      clear hsA HM
      have HO0 := hide (World.ownsRow_lit (base := wk.heap.size) (e := 26) (size := 1) wk #[] 0 (Nat.le_refl _) (by simp [maxLen]) rfl)
      have HB0 := hide (Bel.one wk (.cells #[] 26))
      go_upto_region 7 with (at_builtin; (refine wpList_app rfl (.tmp 20) (.tmp 23) 22 rfl wk.heap.size 26 i0 _ 1 24 Tryd.underlying22 hi0 hz0 hz1 hz2 rfl (by omega) _ 0 [] rfl HO0.out _ X1 k cx (L1.map hdV) rfl (by rw [List.length_map, hl1, Nat.mul_one]) (by have := (HF.out.kept HB0.out).sl.recs.2; rw [hdC_flat] at this; exact this) (hd_one _) (by unfold maxLen; omega) (by omega) HB0.out.size HF.out.sl.nil ?_); intro v1 w1 hown hgr _; have HN := hide (show OwnH wk.heap.size w1 v1 L1 from by unfold OwnH; rw [hl1]; rw [Nat.zero_add, List.nil_append] at hown; exact hown); have HB1 := hide (own_grown HB0.out hgr (by intro q hq; have hk2 : wk.heap.size = q := Option.some.inj hq; omega)); clear hown hgr HO0 HB0 HF)
      have HH := hide ((HP.out.kept (Bel.trans2 HW.out HB1.out)).headAt hpi)
      obtain ⟨hh0, hh1⟩ := HH.out
      have QC := hide (CopyO_c pA pn pc p2 w1 (HPr.out.kept (Bel.trans2 HW.out HB1.out)) hpl)
      clear HH
      go_wp2_with fail
      refine QC.out.mono ?_
      rintro e w2 ⟨X3, c3', rfl, hX, hb⟩
      replace HN := hide (HN.out.kept hb)
      have HX := hide (hX.lower HB1.out.size)
      have HB2 := hide (Bel.then HB1.out hb)
      clear hX hb QC HB1 hh0 hh1
      go_upto_region 8 with (at_builtin; refine wpList_app rfl (.tmp 25) (.tmp 31) 22 rfl wk.heap.size 26 i0 _ 1 24 Tryd.underlying22 hi0 hz0 hz1 hz2 rfl (by omega) v1 L1.length (L1.map hdV) rfl (HN.out.kept (Bel.one w2 (.cells #[.slice X3 pn c3'] 26))) _ (some ⟨w2.heap.size, 0, none⟩) 1 1 [.slice X3 pn c3'] rfl rfl (cells_lit w2 #[.slice X3 pn c3'] 26) (by intro u hu; rw [List.mem_singleton.1 hu]; rfl) (by unfold maxLen; omega) (by omega) (by have := HB2.out.size; simp only [World.size_alloc]; omega) (by intro h; cases h) ?_; intro v2 w3 hown hgr _; have HN3 := hide (show OwnH wk.heap.size w3 v2 (L1 ++ [(⟨X3, pn, c3'⟩, p2)]) from by unfold OwnH; rw [List.length_append, List.map_append]; exact hown); have HX3 := hide ((HX.out.kept (Bel.one w2 (.cells #[.slice X3 pn c3'] 26))).grown hgr (HN.out.kept (Bel.one w2 (.cells #[.slice X3 pn c3'] 26)))); have HB3 := hide (own_grown (Bel.alloc HB2.out (.cells #[.slice X3 pn c3'] 26)) hgr (HN.out.kept (Bel.one w2 (.cells #[.slice X3 pn c3'] 26))).blk); clear hown hgr HN HX HB2)
      obtain ⟨L3, hL3⟩ : ∃ L3 : List HRow, L1 ++ [((⟨X3, pn, c3'⟩, p2) : HRow)] = L3 := ⟨_, rfl⟩
      have hl3 : L3.length = k + 1 := by rw [← hL3, List.length_append, hl1]; rfl
      rw [hL3] at HN3
      have HL3 := hide hL3
      clear hL3
      go_wp2_with (at_builtin; (refine wpList_app rfl (.tmp 33) (.tmp 36) 22 rfl wk.heap.size 26 i0 _ 1 24 Tryd.underlying22 hi0 hz0 hz1 hz2 rfl (by omega) v2 L3.length (L3.map hdV) rfl HN3.out _ X2 m2 cx2 (L2.map hdV) rfl (by rw [List.length_map, hl2, Nat.mul_one]) (by have := (HD.out.kept HB3.out).sl.recs.2; rw [hdC_flat] at this; exact this) (hd_one _) (by unfold maxLen; omega) (by omega) HB3.out.size HD.out.sl.nil ?_); intro v3 w4 hown hgr _; have HN4 := hide (show OwnH wk.heap.size w4 v3 (L3 ++ L2) from by unfold OwnH; rw [List.length_append, List.map_append, hl2]; exact hown); have HX4 := hide (HX3.out.grown hgr HN3.out); have HB4 := hide (own_grown HB3.out hgr HN3.out.blk); clear hown hgr HN3 HX3 HB3)
      have HR4 := hide (show OwnRs w.heap.size w4 v3 (L3 ++ L2) from ⟨own_base HN4.out HBase.out, fun q hq => by
        rw [← HL3.out] at hq
        rcases List.mem_append.1 hq with hq | hq
        · rcases List.mem_append.1 hq with hq | hq
          · exact (HS.out _ HB4.out).rows q (HMm.out q (List.mem_append.2 (.inl hq)))
          · rw [List.mem_singleton.1 hq]; exact HX4.out.lower HBase.out
        · exact (HS.out _ HB4.out).rows q (HMm.out q (List.mem_append.2 (.inr hq)))⟩)
      have hlen : (L3 ++ L2).length = i + 1 := by rw [List.length_append, hl3, hl2]; omega
      obtain ⟨X4, c4, rfl, _⟩ := own_form HN4.out
      rw [hlen] at HR4
      have HW4 := hide (Bel.trans2 HW.out HB4.out)
      clear HN4 HX4 HB4 HS HW HD HMm
      go_roundw
      case rel => exact ⟨i + 1, X4, c4, _, by omega, by go_num, by rw [hlen], hlen, ⟨HW4.out, HR4.out⟩, by have := HI.out; unfold sndL; rw [← HL3.out, List.map_append, List.map_append, List.append_assoc]; exact this⟩
      case measure => simp [intOf]; omega
    · have hlti : ¬ (i : Int) < n := by omega
      obtain rfl : i = n := by omega
      have HX : Hid (sndL os = sortedF (sndL ps)) := by
        have := HI.out
        rw [List.take_of_length_le (by have := HLen.out; omega)] at this
        exact this
      have HR := hide HM.out.2
      have HB := hide HM.out.1
      clear HI HM
      go_wp2_with fail
      go_ret
      exact ⟨X, cx, os, rfl, HR.out, HX.out, HB.out⟩
end Go.Proofs.YtobepbpiagclnaaDoor
