/- The contract of the reference's Runs. -/
import Derived.Test.YtahdkfenpflahaaSpD
import Derived.Deep.Cut
namespace Go.Proofs.Ytahdkfenpflahaa
set_option linter.unusedVariables false
open Go.ChangeShapes Go.WideShapes Go.ChangeAt Go.RowKit

set_option maxRecDepth 100000 in
set_option maxHeartbeats 4000000 in
theorem rRuns_c (A A3 : Option Addr) (n c n3 c3 : Nat) (room : Int) (ps : List HRow) (ks : List (Int × Bool)) (w : World) (hps : HsAt w A n c ps) (hk : KeysAt w w.heap.size A3 n3 c3 ks) (hn : n ≤ 1048576) (hg : ∀ p ∈ ps, GoodR ks p.2) :
    Calls Try.prog 19 #[.slice A n c, .slice A3 n3 c3, .int .i64 room] w (GivesGs w ((cutN (max room 1).toNat n (sndL ps)).map (sortR ks))) := by
  obtain ⟨i0, hi0, hz0, hz1, hz2⟩ := info_parts rows_info
  have hpl := hps.sl.len
  have HP := hide hps
  have HG := hide hg
  have HK := hide hk
  obtain ⟨R, hRe⟩ : ∃ R, (cutN (max room 1).toNat n (sndL ps)).map (sortR ks) = R := ⟨_, rfl⟩
  rw [hRe]
  obtain ⟨OB, hOB⟩ : ∃ OB, w.heap.size = OB := ⟨_, rfl⟩
  have HOB := hide hOB
  have HO0 : Hid (OwnGs OB (w.alloc (.cells #[] 29)) (.slice (some ⟨w.heap.size, 0, none⟩) 0 0) []) := ⟨World.ownsRow_lit (base := OB) (e := 29) (size := 1) w #[] 0 (by omega) (by simp [maxLen]) rfl, by simp⟩
  have HB0 : Hid (Below OB w (w.alloc (.cells #[] 29))) := by rw [← hOB]; exact Bel.one w _
  clear hps hg hk hOB
  by_cases hr1 : room < 1
  · have hkk : (max room 1).toNat = 1 := by omega
    rw [hkk] at hRe
    have HE : Hid (rowsG [] ++ (cutN 1 n (sndL (ps.drop 0))).map (sortR ks) = R) := hRe
    clear hkk hRe
    go_enter Try.func19, Try.ntmps19
    go_upto_region 4 with (fail)
    generalize w.alloc (.cells #[] 29) = w0 at *
    generalize w.heap.size = ob at HO0 HB0 ⊢
    go_wp2_with fail
    go_loopw [7, 8] (fun v av wr => ∃ (a f : Nat) (gs : List GRun), av = .int .i64 a ∧ a ≤ n ∧ n - a ≤ f ∧ gs.length ≤ a ∧ Hid (OwnGs OB wr v gs) ∧ Hid (rowsG gs ++ (cutN 1 f (sndL (ps.drop a))).map (sortR ks) = R) ∧ Hid (Below OB w wr)) (fun _ av _ => n - (intOf av).toNat)
    case atStart => exact ⟨0, n, [], rfl, Nat.zero_le _, by omega, Nat.zero_le _, HO0, HE, HB0⟩
    case round =>
      clear HO0 HE HB0
      obtain ⟨a, f, gs, rfl, hm, hmf, hgm, HO, HE, HB⟩ := hrel
      have hsl : (sndL (ps.drop a)).length = n - a := by show ((ps.drop a).map Prod.snd).length = _; rw [List.length_map, List.length_drop]; omega
      by_cases h0 : a < n
      · have h0i : (a : Int) < n := by omega
        obtain ⟨j, hj⟩ : ∃ j, min 1 (n - a) = j := ⟨_, rfl⟩
        have hj1 : j ≤ n - a := by omega
        have hj2 : 1 ≤ j := by omega
        have hws : IntKind.i64.wrap ((n : Int) - (a : Int)) = (n : Int) - (a : Int) := IntWalk.i64_in _ (by omega)
        have hwa : IntKind.i64.wrap ((a : Int) + (j : Int)) = (a : Int) + (j : Int) := IntWalk.i64_in _ (by omega)
        have hmin : min (1 : Int) ((n : Int) - (a : Int)) = (j : Int) := by omega
        have hmin2 : min ((n : Int) - (a : Int)) (1 : Int) = (j : Int) := by omega
        have hd := HP.out.sl.cap
        have hf1 := fun W => cut_run (A := A) (n := n) (c := c) (a := a) (j := j) (by omega) W
        have hcut : ∀ W, Below OB w W → HsAt W (sndA c a A) j (c - a) ((ps.drop a).take j) := fun W hW => hs_pre (hs_back (HP.out.kept (by rw [HOB.out]; exact hW)) hm) hj1
        have Q := hide (fun (W : World) (hW : Below OB w W) => rsort_c (sndA c a A) A3 j (c - a) n3 c3 ((ps.drop a).take j) ks W (hcut W hW) (HK.out.kept (by rw [HOB.out]; exact hW)) (by omega) (fun p hp => HG.out p (List.mem_of_mem_drop (List.mem_of_mem_take hp))))
        obtain ⟨f', rfl⟩ : ∃ f', f = f' + 1 := ⟨f - 1, by omega⟩
        have HE2 : Hid ((rowsG gs ++ [sortR ks (sndL ((ps.drop a).take j))]) ++ (cutN 1 f' (sndL (ps.drop (a + j)))).map (sortR ks) = R) := by
          show _ = _
          rw [← HE.out, cutN, if_neg (by omega), hsl, hj, List.map_cons, List.append_assoc]
          unfold sndL
          simp only [List.map_take, List.map_drop, ← List.drop_drop]
          rfl
        generalize sortR ks (sndL ((ps.drop a).take j)) = S at *
        generalize sndA c a A = B1 at *
        have haj : a + j ≤ n := by omega
        have hmf2 : n - (a + j) ≤ f' := by omega
        have hgm2 : gs.length + 1 ≤ a + j := by omega
        have hja : a < a + j := by omega
        generalize c - a = d2 at *
        clear hj hd hsl HE hcut
        go_wp2_with fail
        refine (Q.out _ HB.out).mono ?_
        rintro e w3 ⟨A4, c4, os, rfl, hX, hs, hb⟩
        have HX := hide (show OwnRs OB w3 (.slice A4 j c4) os from hX.lower (by rw [← HOB.out]; rw [← HOB.out] at HB; exact HB.out.size))
        replace HO := hide (HO.out.kept hb)
        replace HB := hide (show Below OB w w3 from by rw [← HOB.out] at HB ⊢; exact Bel.then HB.out hb)
        have HS := hide hs
        clear hb Q hX hs
        have hob : OB ≤ w3.heap.size := by have := HB.out; rw [← HOB.out] at this ⊢; exact this.size
        go_wp2_with (at_builtin; refine wpList_app rfl (.tmp 23) (.tmp 32) 36 rfl OB 29 i0 _ 1 24 Try.underlying36 hi0 hz0 hz1 hz2 rfl (by omega) u7 gs.length (gs.map gdV) rfl (HO.out.kept (Bel.one w3 (.cells #[.slice A4 j c4] 29))).out _ (some ⟨w3.heap.size, 0, none⟩) 1 1 [.slice A4 j c4] rfl rfl (cells_lit w3 #[.slice A4 j c4] 29) (by intro u hu; rw [List.mem_singleton.1 hu]; rfl) (by unfold maxLen; omega) (by omega) (by simp only [World.size_alloc]; omega) (by intro h; cases h) ?_; intro v1 w4 hown hgr _; have HO4 := hide ((HO.out.kept (Bel.one w3 (.cells #[.slice A4 j c4] 29))).app (g := (⟨A4, j, c4⟩, os)) hgr (show OwnG OB w4 v1 (gs ++ [(⟨A4, j, c4⟩, os)]) from by unfold OwnG; rw [List.length_append, List.map_append]; exact hown) (HX.out.kept (Bel.one w3 (.cells #[.slice A4 j c4] 29)))); have HB4 := hide (show Below OB w w4 from by have h1 := HB.out; have h2 := OwnG.blk (HO.out.kept (Bel.one w3 (.cells #[.slice A4 j c4] 29))).out; rw [← HOB.out] at h1 h2 ⊢; exact own_grown (Bel.alloc h1 (.cells #[.slice A4 j c4] 29)) hgr h2); clear hown hgr HO HB HX)
        go_roundw
        case rel => exact ⟨a + j, f', gs ++ [(⟨A4, j, c4⟩, os)], by go_num, haj, hmf2, by rw [List.length_append]; exact hgm2, HO4, by show _ = _; rw [rowsG_app]; show (rowsG gs ++ [sndL os]) ++ _ = _; rw [HS.out]; exact HE2.out, HB4⟩
        case measure => simp [intOf]; omega
      · have h0i : ¬ (a : Int) < n := by omega
        have HX : Hid (rowsG gs = R) := by
          have := HE.out
          have e : (cutN 1 f (sndL (ps.drop a))) = [] := by
            cases f with
            | zero => rfl
            | succ f => rw [cutN, if_pos (by omega)]
          rw [e, List.map_nil, List.append_nil] at this
          exact this
        obtain ⟨X, cx, hv⟩ := OwnG.form HO.out.out
        subst hv
        have HB2 := hide (show Below w.heap.size w wr from by rw [HOB.out]; exact HB.out)
        have HO2 := hide (show OwnGs w.heap.size wr (.slice X gs.length cx) gs from by rw [HOB.out]; exact HO.out)
        clear HE HO HB
        go_wp2_with fail
        go_ret
        exact ⟨X, cx, gs, rfl, HO2.out, HX.out, HB2.out⟩
  · obtain ⟨kR, hkR⟩ : ∃ kR : Nat, room.toNat = kR := ⟨_, rfl⟩
    obtain rfl : room = kR := by omega
    have hkk : (max (kR : Int) 1).toNat = kR := by omega
    have hk1 : 1 ≤ kR := by omega
    rw [hkk] at hRe
    have HE : Hid (rowsG [] ++ (cutN kR n (sndL (ps.drop 0))).map (sortR ks) = R) := hRe
    clear hkk hRe hkR
    go_enter Try.func19, Try.ntmps19
    go_upto_region 4 with (fail)
    generalize w.alloc (.cells #[] 29) = w0 at *
    generalize w.heap.size = ob at HO0 HB0 ⊢
    go_wp2_with fail
    go_loopw [7, 8] (fun v av wr => ∃ (a f : Nat) (gs : List GRun), av = .int .i64 a ∧ a ≤ n ∧ n - a ≤ f ∧ gs.length ≤ a ∧ Hid (OwnGs OB wr v gs) ∧ Hid (rowsG gs ++ (cutN kR f (sndL (ps.drop a))).map (sortR ks) = R) ∧ Hid (Below OB w wr)) (fun _ av _ => n - (intOf av).toNat)
    case atStart => exact ⟨0, n, [], rfl, Nat.zero_le _, by omega, Nat.zero_le _, HO0, HE, HB0⟩
    case round =>
      clear HO0 HE HB0
      obtain ⟨a, f, gs, rfl, hm, hmf, hgm, HO, HE, HB⟩ := hrel
      have hsl : (sndL (ps.drop a)).length = n - a := by show ((ps.drop a).map Prod.snd).length = _; rw [List.length_map, List.length_drop]; omega
      by_cases h0 : a < n
      · have h0i : (a : Int) < n := by omega
        obtain ⟨j, hj⟩ : ∃ j, min kR (n - a) = j := ⟨_, rfl⟩
        have hj1 : j ≤ n - a := by omega
        have hj2 : 1 ≤ j := by omega
        have hws : IntKind.i64.wrap ((n : Int) - (a : Int)) = (n : Int) - (a : Int) := IntWalk.i64_in _ (by omega)
        have hwa : IntKind.i64.wrap ((a : Int) + (j : Int)) = (a : Int) + (j : Int) := IntWalk.i64_in _ (by omega)
        have hmin : min ((kR : Nat) : Int) ((n : Int) - (a : Int)) = (j : Int) := by omega
        have hmin2 : min ((n : Int) - (a : Int)) ((kR : Nat) : Int) = (j : Int) := by omega
        have hd := HP.out.sl.cap
        have hf1 := fun W => cut_run (A := A) (n := n) (c := c) (a := a) (j := j) (by omega) W
        have hcut : ∀ W, Below OB w W → HsAt W (sndA c a A) j (c - a) ((ps.drop a).take j) := fun W hW => hs_pre (hs_back (HP.out.kept (by rw [HOB.out]; exact hW)) hm) hj1
        have Q := hide (fun (W : World) (hW : Below OB w W) => rsort_c (sndA c a A) A3 j (c - a) n3 c3 ((ps.drop a).take j) ks W (hcut W hW) (HK.out.kept (by rw [HOB.out]; exact hW)) (by omega) (fun p hp => HG.out p (List.mem_of_mem_drop (List.mem_of_mem_take hp))))
        obtain ⟨f', rfl⟩ : ∃ f', f = f' + 1 := ⟨f - 1, by omega⟩
        have HE2 : Hid ((rowsG gs ++ [sortR ks (sndL ((ps.drop a).take j))]) ++ (cutN kR f' (sndL (ps.drop (a + j)))).map (sortR ks) = R) := by
          show _ = _
          rw [← HE.out, cutN, if_neg (by omega), hsl, hj, List.map_cons, List.append_assoc]
          unfold sndL
          simp only [List.map_take, List.map_drop, ← List.drop_drop]
          rfl
        generalize sortR ks (sndL ((ps.drop a).take j)) = S at *
        generalize sndA c a A = B1 at *
        have haj : a + j ≤ n := by omega
        have hmf2 : n - (a + j) ≤ f' := by omega
        have hgm2 : gs.length + 1 ≤ a + j := by omega
        have hja : a < a + j := by omega
        generalize c - a = d2 at *
        clear hj hd hsl HE hcut
        go_wp2_with fail
        refine (Q.out _ HB.out).mono ?_
        rintro e w3 ⟨A4, c4, os, rfl, hX, hs, hb⟩
        have HX := hide (show OwnRs OB w3 (.slice A4 j c4) os from hX.lower (by rw [← HOB.out]; rw [← HOB.out] at HB; exact HB.out.size))
        replace HO := hide (HO.out.kept hb)
        replace HB := hide (show Below OB w w3 from by rw [← HOB.out] at HB ⊢; exact Bel.then HB.out hb)
        have HS := hide hs
        clear hb Q hX hs
        have hob : OB ≤ w3.heap.size := by have := HB.out; rw [← HOB.out] at this ⊢; exact this.size
        go_wp2_with (at_builtin; refine wpList_app rfl (.tmp 23) (.tmp 32) 36 rfl OB 29 i0 _ 1 24 Try.underlying36 hi0 hz0 hz1 hz2 rfl (by omega) u7 gs.length (gs.map gdV) rfl (HO.out.kept (Bel.one w3 (.cells #[.slice A4 j c4] 29))).out _ (some ⟨w3.heap.size, 0, none⟩) 1 1 [.slice A4 j c4] rfl rfl (cells_lit w3 #[.slice A4 j c4] 29) (by intro u hu; rw [List.mem_singleton.1 hu]; rfl) (by unfold maxLen; omega) (by omega) (by simp only [World.size_alloc]; omega) (by intro h; cases h) ?_; intro v1 w4 hown hgr _; have HO4 := hide ((HO.out.kept (Bel.one w3 (.cells #[.slice A4 j c4] 29))).app (g := (⟨A4, j, c4⟩, os)) hgr (show OwnG OB w4 v1 (gs ++ [(⟨A4, j, c4⟩, os)]) from by unfold OwnG; rw [List.length_append, List.map_append]; exact hown) (HX.out.kept (Bel.one w3 (.cells #[.slice A4 j c4] 29)))); have HB4 := hide (show Below OB w w4 from by have h1 := HB.out; have h2 := OwnG.blk (HO.out.kept (Bel.one w3 (.cells #[.slice A4 j c4] 29))).out; rw [← HOB.out] at h1 h2 ⊢; exact own_grown (Bel.alloc h1 (.cells #[.slice A4 j c4] 29)) hgr h2); clear hown hgr HO HB HX)
        go_roundw
        case rel => exact ⟨a + j, f', gs ++ [(⟨A4, j, c4⟩, os)], by go_num, haj, hmf2, by rw [List.length_append]; exact hgm2, HO4, by show _ = _; rw [rowsG_app]; show (rowsG gs ++ [sndL os]) ++ _ = _; rw [HS.out]; exact HE2.out, HB4⟩
        case measure => simp [intOf]; omega
      · have h0i : ¬ (a : Int) < n := by omega
        have HX : Hid (rowsG gs = R) := by
          have := HE.out
          have e : (cutN kR f (sndL (ps.drop a))) = [] := by
            cases f with
            | zero => rfl
            | succ f => rw [cutN, if_pos (by omega)]
          rw [e, List.map_nil, List.append_nil] at this
          exact this
        obtain ⟨X, cx, hv⟩ := OwnG.form HO.out.out
        subst hv
        have HB2 := hide (show Below w.heap.size w wr from by rw [HOB.out]; exact HB.out)
        have HO2 := hide (show OwnGs w.heap.size wr (.slice X gs.length cx) gs from by rw [HOB.out]; exact HO.out)
        clear HE HO HB
        go_wp2_with fail
        go_ret
        exact ⟨X, cx, gs, rfl, HO2.out, HX.out, HB2.out⟩
end Go.Proofs.Ytahdkfenpflahaa
