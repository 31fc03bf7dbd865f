/- The walk of the reference's Merge. -/
import Derived.Test.YtahdkfenpflahaaSoY
namespace Go.Proofs.Ytahdkfenpflahaa
set_option linter.unusedVariables false
open Go.ChangeShapes Go.WideShapes Go.ChangeAt Go.RowKit

theorem gd_one (gs : List GRun) : ∀ u ∈ gs.map gdV, u.oneCell' = true := by
  intro u hu
  obtain ⟨p, _, rfl⟩ := List.mem_map.1 hu
  rfl
theorem MergeR.block {w wr : World} {A : Option Addr} {n c : Nat} {ov : Value} {gs : List GRun} {os : List HRow} (h : MergeR w wr (.slice A n c) ov gs os) (hn : 0 < gs.length) : ∃ g, A = some ⟨g, 0, none⟩ := by
  rcases h.left.2 with ⟨_, h0⟩ | ⟨g, cap, cur, hv, _⟩
  · omega
  · injection hv with h1 _ _
    exact ⟨g, h1⟩
theorem MergeR.cell {w wr : World} {g n c : Nat} {ov : Value} {gs : List GRun} {os : List HRow} (h : MergeR w wr (.slice (some ⟨g, 0, none⟩) n c) ov gs os) (hn : gs.length = n) {j : Nat} {p : GRun} (hj : gs[j]? = some p) : wr.cell? ⟨g, j, none⟩ = some (gdV p) ∧ wr.frozen? ⟨g, j, none⟩ = false ∧ g < wr.heap.size := by
  subst hn
  have hl := h.left
  unfold OwnG at hl
  exact ⟨own_cell hl (by rw [List.getElem?_map, hj]; rfl), hl.frozenAt j, (hl.lt _ rfl).2⟩
set_option maxRecDepth 100000 in
set_option maxHeartbeats 4000000 in
theorem rmerge_c (A A3 : Option Addr) (n c n3 c3 : Nat) (gs : List GRun) (ks : List (Int × Bool)) (w : World) (h : GsAt w A n c gs) (hk : KeysAt w w.heap.size A3 n3 c3 ks) (hn : n ≤ 1048576) (hsum : sumL (rowsG gs) ≤ 1048576) (hgood : ∀ l ∈ rowsG gs, ∀ r ∈ l, GoodR ks r) :
    Calls Try.prog 21 #[.slice A n c, .slice A3 n3 c3] w fun e w' => ∃ X cx os, e = .returned (.slice X os.length cx) ∧ HsAt w' X os.length cx os ∧ sndL os = mergeR ks (rowsG gs) ∧ Below w.heap.size w w' := by
  obtain ⟨i0, hi0, hz0, hz1, hz2⟩ := info_parts row_info
  obtain ⟨i1, hi1, hy0, hy1, hy2⟩ := info_parts rows_info
  have hgl := h.sl.len
  have HML : Hid ((mergeR ks (rowsG gs)).length = sumL (rowsG gs)) := mergeN_len _ _ _ (Nat.lt_succ_self _)
  obtain ⟨M, hM⟩ : ∃ M, mergeR ks (rowsG gs) = M := ⟨_, rfl⟩
  have HE : Hid (sndL ([] : List HRow) ++ mergeR ks (rowsG gs) = M) := hM
  rw [hM] at HML ⊢
  have HMB : Hid (M.length ≤ 1048576) := by show _ ≤ _; rw [HML.out]; exact hsum
  have HR := hide h.each
  have HGd := hide hgood
  have H := hide (h.kept (Bel.one w (.cells #[] 29)))
  have HO := hide (World.ownsRow_lit (base := w.heap.size) (e := 29) (size := 1) w #[] 0 (Nat.le_refl _) (by simp [maxLen]) rfl)
  have HB := hide (Bel.one w (.cells #[] 29))
  have QL := hide (fun (A1 : Option Addr) (c1 : Nat) (gs' : List GRun) (os : List HRow) (ov : Value) (W : World) (hm : MergeR w W (.slice A1 n c1) ov gs' os) (hg : ∀ l ∈ rowsG gs', ∀ r ∈ l, GoodR ks r) => least_c A1 A3 n c1 n3 c3 gs' ks W (OwnG.gsAt hm.left hm.below hm.runs) (hk.kept hm.below) (fun l hl r hr => (hg l hl r hr).all) (fun l hl r hr => (hg l hl r hr).strs))
  clear h hk hgood hM hsum HML
  go_enter Try.func21, Try.ntmps21
  go_upto_region 2 with (at_builtin; refine wpList_app rfl (.tmp 8) (.tmp 9) 36 rfl w.heap.size 29 i1 _ 1 24 Try.underlying36 hi1 hy0 hy1 hy2 rfl (by omega) _ 0 [] rfl HO.out _ A n c (gs.map gdV) rfl (by rw [List.length_map, hgl, Nat.mul_one]) (by rw [← gdC_flat]; exact H.out.sl.recs.2) (gd_one gs) (by unfold maxLen; omega) (by omega) HB.out.size H.out.sl.nil ?_; intro v1 w2 hown hgr _; have HOn := hide hown; have HBn := hide (own_grown HB.out hgr (by intro k hk; have hk2 : w.heap.size = k := Option.some.inj hk; omega)); clear hown hgr HO HB H)
  have ho := HOn.out
  rw [Nat.zero_add, List.nil_append] at ho
  obtain ⟨A1, c1, rfl, _⟩ := own_form ho
  have HG1 : Hid (OwnG w.heap.size w2 (.slice A1 n c1) gs) := by show OwnG _ _ _ _; unfold OwnG; rw [hgl]; exact ho
  clear ho HOn
  go_upto_region 3 with (fail)
  have HM := hide (show MergeR w (w2.alloc (.cells #[] 23)) (.slice A1 n c1) (.slice (some ⟨w2.heap.size, 0, none⟩) 0 0) gs [] from ⟨own_below HG1.out (Bel.one _ _), HR.out, World.ownsRow_lit (base := w.heap.size) (e := 23) (size := 1) w2 #[] 0 HBn.out.size (by simp [maxLen]) rfl, by simp, Bel.alloc HBn.out _⟩)
  generalize w2.alloc (.cells #[] 23) = w3 at *
  generalize w2.heap.size = ob at *
  clear HG1 HBn HR
  go_wp2_with fail
  refine (QL.out A1 c1 gs [] _ _ HM.out HGd.out).mono ?_
  rintro e w4 ⟨v, rfl, hv, hb⟩
  replace HM := hide (HM.out.kept hb)
  have HV := hide hv
  clear hv hb
  go_wp2_with fail
  go_loopw [6, 7] (fun ov kv wr => ∃ (gs' : List GRun) (os : List HRow) (v : Int), kv = .int .i64 v ∧ gs'.length = n ∧ Hid (MergeR w wr (.slice A1 n c1) ov gs' os) ∧ Hid (LeastSt (ltR ks) (rowsG gs') (rowsG gs').length v) ∧ Hid (sndL os ++ mergeR ks (rowsG gs') = M) ∧ Hid (∀ l ∈ rowsG gs', ∀ r ∈ l, GoodR ks r)) (fun ov _ _ => M.length - lenV ov)
  case atStart => exact ⟨gs, [], v, rfl, hgl, HM, HV, HE, HGd⟩
  case round =>
    clear HM HV HE HGd
    obtain ⟨gs', os, v, rfl, hl', HM, HV, HE, HGd⟩ := hrel
    have hv' := HV.out
    rcases hv' with ⟨rfl, he⟩ | ⟨j, x, t, rfl, hj⟩
    · have hv0 : ¬ (0 : Int) ≤ -1 := by omega
      have HX : Hid (sndL os = M) := by
        have := HE.out
        rw [mergeR_empty (fun l hl => by obtain ⟨i, hi⟩ := List.getElem?_of_mem hl; exact he i l (List.getElem?_eq_some_iff.1 hi).1 hi), List.append_nil] at this
        exact this
      obtain ⟨X, cx, rfl, hs⟩ := HM.out.out.hsR HM.out.rows
      have HS := hide hs
      have HB := hide HM.out.below
      clear he hs HM HE HGd HV
      go_wp2_with fail
      go_ret
      exact ⟨X, cx, os, rfl, HS.out, HX.out, HB.out⟩
    · have hj0 : (0 : Int) ≤ (j : Int) := by omega
      obtain ⟨gA, gn, gc, r, ps, hg, hr, hjl, hset⟩ := least_take hj
      have hms := mergeR_step hj
      rw [← hset] at hms
      have HGd2 : Hid (∀ l ∈ rowsG (gs'.set j (⟨sndA gc 1 gA, gn - 1, gc - 1⟩, ps)), ∀ r ∈ l, GoodR ks r) := by
        show ∀ l ∈ _, _
        rw [hset]
        exact set_good HGd.out hj.at_
      have HE2 : Hid ((sndL os ++ [r.2]) ++ mergeR ks (rowsG (gs'.set j (⟨sndA gc 1 gA, gn - 1, gc - 1⟩, ps))) = M) := by
        show _ = _
        rw [← HE.out, hms, hr, List.append_assoc]
        rfl
      have hos : os.length + 1 ≤ M.length := by
        rw [← HE2.out]
        simp [sndL]
      have hMl := HMB.out
      have hlv := hide (OwnH.len HM.out.out)
      have hjn : (j : Int) < n := by omega
      obtain ⟨g, rfl⟩ := HM.out.block (by omega)
      obtain ⟨hc1, _, hgs⟩ := HM.out.cell hl' hg
      unfold gdV at hc1
      have hrun := HM.out.runs _ (List.mem_of_getElem? hg)
      obtain ⟨pb, poff, rfl, Hc⟩ := (hrun.kept HM.out.below).front
      simp only at hc1
      have hgn : 1 ≤ gn := by have : ps.length + 1 = gn := hrun.sl.len; omega
      have hgni : (0 : Int) < gn := by omega
      have hgr : r.2.length ≤ 1048576 := (HGd.out _ (List.mem_of_getElem? hj.at_) x (by simp) |>.len) |> (fun h => by rw [hr]; exact h)
      have hrl : r.2.length = r.1.n := (hrun.each r (by simp)).len
      have Q := hide (CopyO_c r.1.A r.1.n r.1.c r.2 wr ((hrun.kept HM.out.below).each r (by simp)) (by omega))
      have hf1 := fun W => back_run (A := some ⟨pb, poff, none⟩) (n := gn) (c := gc) (j := 1) hgn W
      rw [show (((1 : Nat) : Int)) = 1 from rfl] at hf1
      have HST := hide (fun (W : World) (ov : Value) (os2 : List HRow) (hm : MergeR w W (.slice (some ⟨g, 0, none⟩) n c1) ov gs' os2) => hm.store hl' hg)
      have HC := hide (fun (W : World) (ov : Value) (os2 : List HRow) (hm : MergeR w W (.slice (some ⟨g, 0, none⟩) n c1) ov gs' os2) => hm.cell hl' hg)
      have hl2 : (gs'.set j (⟨sndA gc 1 (some ⟨pb, poff, none⟩), gn - 1, gc - 1⟩, ps)).length = n := by rw [List.length_set]; exact hl'
      generalize hG2 : gs'.set j (⟨sndA gc 1 (some ⟨pb, poff, none⟩), gn - 1, gc - 1⟩, ps) = gs2 at *
      clear hG2
      unfold gdV at HC
      simp only at HC
      generalize sndA gc 1 (some ⟨pb, poff, none⟩) = gA2 at *
      generalize gn - 1 = gn2 at *
      generalize gc - 1 = gc2 at *
      obtain ⟨_, c_0⟩ := Hc
      have HL' := hide hl'
      clear hr hjl hset hms hrun hgr hrl hj hg HV HE HGd hl'
      generalize hrn : r.1.n = rn at *
      generalize r.1.A = rA at *
      generalize r.1.c = rc at *
      generalize hr2 : r.2 = r2 at *
      clear hrn hr2 r
      go_wp2_with fail
      refine Q.out.mono ?_
      rintro e w5 ⟨X, cx, rfl, hX, hb⟩
      have HX : Hid (OwnR w.heap.size w5 (⟨X, rn, cx⟩, r2)) := ⟨hX.1, own_base hX.2 HM.out.below.size⟩
      replace HM := hide (HM.out.kept hb)
      clear hX hb Q c_0 hc1
      go_upto_region 7 with (at_builtin; refine wpList_app rfl (.tmp 20) (.tmp 28) 29 rfl w.heap.size 23 i0 _ 1 24 Try.underlying29 hi0 hz0 hz1 hz2 rfl (by omega) u6 os.length (os.map hdV) rfl (HM.out.kept (Bel.one w5 (.cells #[.slice X rn cx] 23))).out _ (some ⟨w5.heap.size, 0, none⟩) 1 1 [.slice X rn cx] rfl rfl (cells_lit w5 #[.slice X rn cx] 23) (by intro u hu; rw [List.mem_singleton.1 hu]; rfl) (by unfold maxLen; omega) (by omega) (by have := HM.out.below.size; simp only [World.size_alloc]; omega) (by intro h; cases h) ?_; intro v1 w6 hown hgr _; have HM6 := hide ((HM.out.kept (Bel.one w5 (.cells #[.slice X rn cx] 23))).app hgr (show OwnH w.heap.size w6 v1 (os ++ [(⟨X, rn, cx⟩, r2)]) from by unfold OwnH; rw [List.length_append, List.map_append]; exact hown) ⟨HX.out.1, own_below HX.out.2 (Bel.one w5 (.cells #[.slice X rn cx] 23))⟩); clear hown hgr HM HX)
      obtain ⟨hc6, hz6, hg6⟩ := HC.out _ _ _ HM6.out
      replace HM6 := hide (HST.out _ _ _ HM6.out)
      clear HC HST
      go_wp2_with fail
      generalize w6.setCell ⟨g, j, none⟩ (.slice gA2 gn2 gc2) = w7 at *
      clear hc6 hz6 hg6
      refine (QL.out _ c1 gs2 _ _ _ HM6.out HGd2.out).mono ?_
      rintro e w8 ⟨v2, rfl, hv, hb⟩
      replace HM6 := hide (HM6.out.kept hb)
      have HV := hide hv
      clear hv hb
      go_wp2_with fail
      go_roundw
      case rel => exact ⟨gs2, os ++ [(⟨X, rn, cx⟩, r2)], v2, rfl, hl2, HM6, HV, by show sndL _ ++ _ = _; rw [← HE2.out]; simp [sndL], HGd2⟩
      case measure => have e2 := OwnH.len HM6.out.out; have e1 := hlv.out; rw [List.length_append] at e2; simp only [List.length_cons, List.length_nil] at e2; omega
end Go.Proofs.Ytahdkfenpflahaa
