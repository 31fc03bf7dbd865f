/- The contracts of sorter.Runs and its reference: pieces, sorted. -/
import Derived.Test.YtahdkfenpflahaaSpC
namespace Go.Proofs.Ytahdkfenpflahaa
set_option linter.unusedVariables false
open Go.ChangeShapes Go.WideShapes Go.ChangeAt Go.RowKit

/-- Pieces of at most k. -/
def cutN {α : Type} (k : Nat) : Nat → List α → List (List α)
  | 0, _ => []
  | f + 1, l => if l.length = 0 then [] else l.take (min k l.length) :: cutN k f (l.drop (min k l.length))
theorem cutN_flat {α : Type} {k : Nat} (hk : 1 ≤ k) : ∀ (f : Nat) (l : List α), l.length ≤ f → (cutN k f l).flatten = l
  | 0, l, h => by rw [List.eq_nil_of_length_eq_zero (by omega : l.length = 0)]; rfl
  | f + 1, l, h => by
    rw [cutN]
    by_cases h0 : l.length = 0
    · rw [if_pos h0, List.eq_nil_of_length_eq_zero h0]; rfl
    · rw [if_neg h0, List.flatten_cons, cutN_flat hk f _ (by rw [List.length_drop]; omega), List.take_append_drop]
/-- Runs of rows that are the call's own. -/
structure OwnGs (base : Nat) (w : World) (v : Value) (gs : List GRun) : Prop where
  out : OwnG base w v gs
  runs : ∀ g ∈ gs, OwnRs base w (gdV g) g.2
section
variable {B0 : Nat} {w w' : World} {v v1 : Value} {gs : List GRun} {X : Option Addr} {n c : Nat} {g : GRun}
theorem OwnRs.grown {os : List HRow} {u : Value} {b2 : Nat} (h : OwnRs B0 w v os) (hg : w.grownBy w' u.ownBlock) (ho : OwnG b2 w u gs) : OwnRs B0 w' v os :=
  ⟨World.ownsRow.kept h.out hg (own_ne h.out ho (Ne.symm ne_GH)), fun p hp => ⟨(h.rows p hp).1, (h.rows p hp).2.kept hg (own_ne (h.rows p hp).2 ho ne_RG)⟩⟩
theorem OwnGs.kept (h : OwnGs B0 w v gs) (hb : Below w.heap.size w w') : OwnGs B0 w' v gs := ⟨own_below h.out hb, fun g hg => (h.runs g hg).kept hb⟩
theorem OwnGs.lower {b : Nat} (h : OwnGs B0 w v gs) (hb : b ≤ B0) : OwnGs b w v gs := ⟨own_base h.out hb, fun g hg => (h.runs g hg).lower hb⟩
theorem OwnGs.app (h : OwnGs B0 w v gs) (hg : w.grownBy w' v.ownBlock) (ho : OwnG B0 w' v1 (gs ++ [g])) (hp : OwnRs B0 w (gdV g) g.2) : OwnGs B0 w' v1 (gs ++ [g]) := by
  refine ⟨ho, fun q hq => ?_⟩
  rcases List.mem_append.1 hq with hq | hq
  · exact (h.runs q hq).grown hg h.out
  · rw [List.mem_singleton.1 hq]; exact hp.grown hg h.out
theorem OwnGs.gs' (h : OwnGs B0 w (.slice X n c) gs) : GsAt w X n c gs := by
  obtain ⟨A', c', e, hs⟩ := sl_of_own (l := gs) (f := gdC) (by rw [gdC_flat]; exact h.out) (fun _ => rfl)
  injection e with e1 e2 e3
  subst e1 e2 e3
  exact ⟨hs, fun p hp => (h.runs p hp).hs⟩
theorem OwnG.blk (h : OwnG B0 w v gs) : ∀ k, v.ownBlock = some k → B0 ≤ k := fun k hk => (World.ownsRow.lt h k hk).1
theorem OwnG.form (h : OwnG B0 w v gs) : ∃ X c, v = .slice X gs.length c := by
  obtain ⟨A, c, rfl, _⟩ := own_form h
  exact ⟨A, c, rfl⟩
end
/-- Runs that are the call's own, given back. -/
def GivesGs (w : World) (R : List (List (List ValV))) (e : Ending) (w' : World) : Prop := ∃ X cx gs, e = .returned (.slice X gs.length cx) ∧ OwnGs w.heap.size w' (.slice X gs.length cx) gs ∧ rowsG gs = R ∧ Below w.heap.size w w'
theorem rowsG_app (gs : List GRun) (g : GRun) : rowsG (gs ++ [g]) = rowsG gs ++ [sndL g.2] := by unfold rowsG; rw [List.map_append]; rfl
theorem hs_pre {w : World} {A : Option Addr} {n c j : Nat} {ps : List HRow} (h : HsAt w A n c ps) (hj : j ≤ n) : HsAt w A j c (ps.take j) := by
  have hl := h.sl.len
  have hc := h.sl.cap
  refine ⟨⟨by rw [List.length_take]; omega, by omega, h.sl.max, fun e => ?_, ⟨?_, fun h0 => ?_⟩⟩, fun p hp => h.each p (List.mem_of_mem_take hp)⟩
  · have := h.sl.nil e
    omega
  · intro xs hx
    obtain ⟨a, _, rfl⟩ := List.mem_map.1 hx
    rfl
  · rw [hdC_flat, List.length_map, List.length_take] at h0
    obtain ⟨b, off, e, hb, hcell⟩ := h.sl.recs.2 (by rw [hdC_flat, List.length_map]; omega)
    refine ⟨b, off, e, hb, fun i u hu => hcell i u ?_⟩
    rw [hdC_flat] at hu ⊢
    rw [List.map_take, List.getElem?_take] at hu
    split at hu
    · exact hu
    · cases hu
theorem cut_run {c n : Nat} {A : Option Addr} {a j : Nat} (hj : a + j ≤ c) (W : World) : (Instr.slice 29 (.slice A n c) (some (.int .i64 (a : Int))) (some (.int .i64 ((a : Int) + (j : Int)))) none).run Try.prog W = .ok (.slice (sndA c a A) j (c - a)) W := by
  obtain ⟨i0, hi0, hz0, hz1, hz2⟩ := info_parts row_info
  rw [run_slice_lh (P := Try.prog) W 29 A n c (by kernel_rfl) .i64 .i64 (a : Int) ((a : Int) + (j : Int)) (by omega) (by omega) (by omega)]
  have he : Try.prog.elem 29 = 23 := by kernel_rfl
  rw [he]
  have hs : (sizeOf 23).run Try.prog W = .ok 1 W := by simp [sizeOf, typeInfo, hi0, hz1]
  rw [hs]
  show Result.ok (Value.slice (if c = (a : Int).toNat then A else A.map (·.add ((a : Int).toNat * 1))) (((a : Int) + (j : Int)).toNat - (a : Int).toNat) (c - (a : Int).toNat)) W = _
  have e1 : ((a : Int) + (j : Int)).toNat = a + j := by omega
  rw [Nat.mul_one, e1, Int.toNat_natCast, Nat.add_sub_cancel_left]
  rfl
set_option maxRecDepth 100000 in
set_option maxHeartbeats 2000000 in
theorem Runs_c (A A3 : Option Addr) (n c n3 c3 : Nat) (room : Int) (ps : List HRow) (ks : List (Int × Bool)) (w : World) (hps : HsAt w A n c ps) (hk : KeysAt w w.heap.size A3 n3 c3 ks) (hn : n ≤ 1048576) (hr : ∀ p ∈ ps, p.2.length ≤ 1048576) :
    Calls Try.prog 18 #[.slice A n c, .slice A3 n3 c3, .int .i64 room] w (GivesGs w ((cutN (max room 1).toNat n (sndL ps)).map (sortR ks))) := by
  obtain ⟨i0, hi0, hz0, hz1, hz2⟩ := info_parts rows_info
  have HP := hide hps
  have HR : Hid (∀ p ∈ ps, p.2.length ≤ 1048576) := hr
  have HK := hide hk
  obtain ⟨R0, hR0⟩ : ∃ R0, max room 1 = R0 := ⟨_, rfl⟩
  obtain ⟨kR, hkR⟩ : ∃ kR : Nat, R0.toNat = kR := ⟨_, rfl⟩
  have hk1 : 1 ≤ kR := by omega
  have hRk : R0 = kR := by omega
  rw [hR0, hkR]
  subst hRk
  clear hkR
  obtain ⟨R, hRe⟩ : ∃ R, (cutN kR n (sndL ps)).map (sortR ks) = R := ⟨_, rfl⟩
  rw [hRe]
  have HE : Hid (rowsG [] ++ (cutN kR n (sndL ps)).map (sortR ks) = R) := hRe
  have HO : Hid (OwnGs w.heap.size w (.slice none 0 0) []) := ⟨World.ownsRow_nil _ _ _ _, by simp⟩
  clear hps hr hk hRe
  go_enter Try.func18, Try.ntmps18
  go_wp2_with fail
  go_loopw [0, 7] (fun l v wr => ∃ (B : Option Addr) (m d f : Nat) (qs : List HRow) (gs : List GRun), l = .slice B m d ∧ m ≤ n ∧ m ≤ f ∧ gs.length + m ≤ n ∧ Hid (HsAt w B m d qs) ∧ Hid (∀ p ∈ qs, p.2.length ≤ 1048576) ∧ Hid (OwnGs w.heap.size wr v gs) ∧ Hid (rowsG gs ++ (cutN kR f (sndL qs)).map (sortR ks) = R) ∧ Hid (Below w.heap.size w wr)) (fun l _ _ => lenV l)
  case atStart => exact ⟨A, n, c, n, ps, [], rfl, Nat.le_refl _, Nat.le_refl _, by simp, HP, HR, HO, HE, Below.refl _ _⟩
  case round =>
    clear HP HR HO HE
    obtain ⟨B, m, d, f, qs, gs, rfl, hm, hmf, hgm, HP, HR, HO, HE, HB⟩ := hrel
    have hql := HP.out.sl.len
    have hsl : (sndL qs).length = m := by show (qs.map Prod.snd).length = m; rw [List.length_map]; exact hql
    by_cases h0 : 0 < m
    · have h0i : (0 : Int) < m := by omega
      obtain ⟨j, hj⟩ : ∃ j, min kR m = j := ⟨_, rfl⟩
      have hj1 : j ≤ m := by omega
      have hj2 : 1 ≤ j := by omega
      have hmin : min (kR : Int) (m : Int) = (j : Int) := by omega
      have hmin2 : min (m : Int) (kR : Int) = (j : Int) := by omega
      have hd := HP.out.sl.cap
      have hf1 := fun W => front_run (A := B) (n := m) (c := d) (k := j) (by omega) W
      have hf2 := fun W => back_run (A := B) (n := m) (c := d) (j := j) hj1 W
      have Q := hide (fun (W : World) (hW : Below w.heap.size w W) => SortO_c (fstA d B) A3 j d n3 c3 (qs.take j) ks W (hs_front (HP.out.kept hW) hj1) (HK.out.kept hW) (by omega) (fun r hr' => by
        obtain ⟨p, hp, rfl⟩ := List.mem_map.1 hr'
        exact HR.out p (List.mem_of_mem_take hp)))
      obtain ⟨f', rfl⟩ : ∃ f', f = f' + 1 := ⟨f - 1, by omega⟩
      have HE2 : Hid ((rowsG gs ++ [sortR ks (sndL (qs.take j))]) ++ (cutN kR f' (sndL (qs.drop j))).map (sortR ks) = R) := by
        show _ = _
        rw [← HE.out, cutN, if_neg (by omega), hsl, hj, List.map_cons, List.append_assoc]
        unfold sndL
        rw [List.map_take, List.map_drop]
        rfl
      have HP2 := hide (hs_back HP.out hj1)
      have HR2 : Hid (∀ p ∈ qs.drop j, p.2.length ≤ 1048576) := fun p hp => HR.out p (List.mem_of_mem_drop hp)
      generalize sortR ks (sndL (qs.take j)) = S at *
      generalize qs.drop j = qs2 at *
      generalize fstA d B = B1 at *
      generalize sndA d j B = B2 at *
      have hlt : m - j < m := by omega
      have hm2 : m - j ≤ n := by omega
      have hmf2 : m - j ≤ f' := by omega
      have hgm2 : gs.length + 1 + (m - j) ≤ n := by omega
      generalize m - j = m2 at *
      generalize d - j = d2 at *
      clear hj hd HP HR hsl hql HE
      go_wp2_with fail
      refine (Q.out _ HB.out).mono ?_
      rintro e w3 ⟨A4, c4, os, rfl, hX, hs, hb⟩
      have HX := hide (hX.lower HB.out.size)
      replace HO := hide (HO.out.kept hb)
      replace HB := hide (Bel.then HB.out hb)
      have HS := hide hs
      clear hb Q hX hs
      go_wp2_with (at_builtin; refine wpList_app rfl (.tmp 18) (.tmp 24) 36 rfl w.heap.size 29 i0 _ 1 24 Try.underlying36 hi0 hz0 hz1 hz2 rfl (by omega) u7 gs.length (gs.map gdV) rfl (HO.out.kept (Bel.one w3 (.cells #[.slice A4 j c4] 29))).out _ (some ⟨w3.heap.size, 0, none⟩) 1 1 [.slice A4 j c4] rfl rfl (cells_lit w3 #[.slice A4 j c4] 29) (by intro u hu; rw [List.mem_singleton.1 hu]; rfl) (by unfold maxLen; omega) (by omega) (by have := HB.out.size; simp only [World.size_alloc]; omega) (by intro h; cases h) ?_; intro v1 w4 hown hgr _; have HO4 := hide ((HO.out.kept (Bel.one w3 (.cells #[.slice A4 j c4] 29))).app (g := (⟨A4, j, c4⟩, os)) hgr (show OwnG w.heap.size w4 v1 (gs ++ [(⟨A4, j, c4⟩, os)]) from by unfold OwnG; rw [List.length_append, List.map_append]; exact hown) (HX.out.kept (Bel.one w3 (.cells #[.slice A4 j c4] 29)))); have HB4 := hide (own_grown (Bel.alloc HB.out (.cells #[.slice A4 j c4] 29)) hgr (OwnG.blk (HO.out.kept (Bel.one w3 (.cells #[.slice A4 j c4] 29))).out)); clear hown hgr HO HB HX)
      go_roundw
      case rel => exact ⟨B2, m2, d2, f', qs2, gs ++ [(⟨A4, j, c4⟩, os)], rfl, hm2, hmf2, by rw [List.length_append]; exact hgm2, HP2, HR2, HO4, by show _ = _; rw [rowsG_app]; show (rowsG gs ++ [sndL os]) ++ _ = _; rw [HS.out]; exact HE2.out, HB4⟩
      case measure => simp [lenV]; omega
    · have h0i : ¬ (0 : Int) < m := by omega
      have HX : Hid (rowsG gs = R) := by
        have := HE.out
        have e : (cutN kR f (sndL qs)) = [] := by
          cases f with
          | zero => rfl
          | succ f => rw [cutN, if_pos (by omega)]
        rw [e, List.map_nil, List.append_nil] at this
        exact this
      obtain ⟨X, cx, hv⟩ := OwnG.form HO.out.out
      subst hv
      clear HE HP HR
      go_wp2_with fail
      go_ret
      exact ⟨X, cx, gs, rfl, HO.out, HX.out, HB.out⟩
end Go.Proofs.Ytahdkfenpflahaa
