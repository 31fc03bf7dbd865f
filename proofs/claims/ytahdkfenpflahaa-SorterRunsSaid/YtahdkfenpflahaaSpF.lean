/- Mathematics: sorted pieces, merged, are the whole, sorted; the walk of SorterRuns. -/
import Derived.Test.YtahdkfenpflahaaSpE
import Derived.Test.YtahdkfenpflahaaSoYx
namespace Go.Proofs.Ytahdkfenpflahaa
set_option linter.unusedVariables false
open Go.ChangeShapes Go.WideShapes Go.ChangeAt Go.RowKit

theorem mergeN_perm {α : Type} (lt : α → α → Bool) : ∀ (f : Nat) (L : List (List α)), L.length < f → (mergeN lt f L).Perm L.flatten
  | 0, L, h => absurd h (by omega)
  | f + 1, L, h => by
    rw [mergeN]
    by_cases h0 : L.length = 0
    · rw [if_pos h0, List.eq_nil_of_length_eq_zero h0]
      exact List.Perm.refl _
    rw [if_neg h0]
    by_cases h1 : L.length = 1
    · rw [if_pos h1]
    rw [if_neg h1]
    refine (mergeL_perm lt _ _).trans ?_
    have p := (mergeN_perm lt f (L.take (L.length / 2)) (by rw [List.length_take]; omega)).append (mergeN_perm lt f (L.drop (L.length / 2)) (by rw [List.length_drop]; omega))
    rwa [← List.flatten_append, List.take_append_drop] at p
theorem mergeN_rise {ks : List (Int × Bool)} : ∀ (f : Nat) (L : List (List (List ValV))), L.length < f → (∀ l ∈ L, RiseK ks l) → (∀ l ∈ L, ∀ r ∈ l, AllK ks r) → RiseK ks (mergeN (fun r s => befB r s ks) f L)
  | 0, L, h, _, _ => absurd h (by omega)
  | f + 1, L, h, hr, ha => by
    rw [mergeN]
    by_cases h0 : L.length = 0
    · rw [if_pos h0]; exact List.Pairwise.nil
    rw [if_neg h0]
    by_cases h1 : L.length = 1
    · rw [if_pos h1]
      obtain ⟨l, rfl⟩ := List.length_eq_one_iff.1 h1
      simpa using hr l (by simp)
    rw [if_neg h1]
    have m1 : ∀ a ∈ mergeN (fun r s => befB r s ks) f (L.take (L.length / 2)), AllK ks a := fun a h => by
      obtain ⟨l, hl, hr⟩ := mergeN_mem _ _ h
      exact ha l (List.mem_of_mem_take hl) a hr
    have m2 : ∀ a ∈ mergeN (fun r s => befB r s ks) f (L.drop (L.length / 2)), AllK ks a := fun a h => by
      obtain ⟨l, hl, hr⟩ := mergeN_mem _ _ h
      exact ha l (List.mem_of_mem_drop hl) a hr
    exact mergeL_rise m1 m2 (mergeN_rise f _ (by rw [List.length_take]; omega) (fun l hl => hr l (List.mem_of_mem_take hl)) (fun l hl => ha l (List.mem_of_mem_take hl))) (mergeN_rise f _ (by rw [List.length_drop]; omega) (fun l hl => hr l (List.mem_of_mem_drop hl)) (fun l hl => ha l (List.mem_of_mem_drop hl)))
theorem flat_sorted (ks : List (Int × Bool)) : ∀ L : List (List (List ValV)), (L.map (sortR ks)).flatten.Perm L.flatten
  | [] => List.Perm.refl _
  | l :: L => by
    rw [List.map_cons, List.flatten_cons, List.flatten_cons]
    exact (sortR_perm ks l).append (flat_sorted ks L)
theorem runs_merged {ks : List (Int × Bool)} {k n : Nat} {S : List (List ValV)} (hk : 1 ≤ k) (hn : S.length ≤ n) (ha : ∀ r ∈ S, AllK ks r) : mergeR ks ((cutN k n S).map (sortR ks)) = sortR ks S := by
  have hf := cutN_flat hk n S hn
  have hm : ∀ l ∈ (cutN k n S).map (sortR ks), ∀ r ∈ l, AllK ks r := fun l hl r hr => by
    obtain ⟨p, hp, rfl⟩ := List.mem_map.1 hl
    refine ha r ?_
    rw [← hf]
    exact List.mem_flatten.2 ⟨p, hp, (sortR_perm ks p).mem_iff.1 hr⟩
  refine rise_unique (mergeN_rise _ _ (Nat.lt_succ_self _) (fun l hl => ?_) hm) (sortR_rise ha) ?_
  · obtain ⟨p, hp, rfl⟩ := List.mem_map.1 hl
    refine sortR_rise fun r hr => ha r ?_
    rw [← hf]
    exact List.mem_flatten.2 ⟨p, hp, hr⟩
  · refine (mergeN_perm _ _ _ (Nat.lt_succ_self _)).trans ((flat_sorted ks _).trans ?_)
    rw [hf]
    exact (sortR_perm ks S).symm
theorem runs_sum {ks : List (Int × Bool)} {k n : Nat} {S : List (List ValV)} (hk : 1 ≤ k) (hn : S.length ≤ n) : sumL ((cutN k n S).map (sortR ks)) = S.length := by
  unfold sumL
  rw [(flat_sorted ks _).length_eq, cutN_flat hk n S hn]
theorem runs_mem {ks : List (Int × Bool)} {k n : Nat} {S l : List (List ValV)} {r : List ValV} (hk : 1 ≤ k) (hn : S.length ≤ n) (hl : l ∈ (cutN k n S).map (sortR ks)) (hr : r ∈ l) : r ∈ S := by
  obtain ⟨p, hp, rfl⟩ := List.mem_map.1 hl
  rw [← cutN_flat hk n S hn]
  exact List.mem_flatten.2 ⟨p, hp, (sortR_perm ks p).mem_iff.1 hr⟩
theorem runs_len {k : Nat} {α : Type} : ∀ (n : Nat) (S : List α), (cutN k n S).length ≤ n
  | 0, S => Nat.le_refl _
  | n + 1, S => by
    rw [cutN]
    split
    · simp
    · rw [List.length_cons]
      have := runs_len (k := k) n (S.drop (min k S.length))
      omega
set_option maxRecDepth 100000 in
set_option maxHeartbeats 4000000 in
theorem sorterRuns_w (A A3 : Option Addr) (n c n3 c3 : Nat) (room : Int) (ps : List HRow) (ks : List (Int × Bool)) (w : World) (h : HsAt w A n c ps) (hk : KeysAt w w.heap.size A3 n3 c3 ks) (hs : ∀ p ∈ ps, StrsOk p.2) :
    Calls Try.prog 6 #[.slice A n c, .slice A3 n3 c3, .int .i64 room] w fun e w' => e = .returned (.bool true) ∧ Below w.heap.size w w' := by
  have HP := hide h
  have HK := hide hk
  have HS := hide hs
  have hl := h.sl.len
  have QA := hide (fun W => awake_c W)
  have QS := hide (small_c A n c ps w h)
  have QL := hide (fun (W : World) (hW : Below w.heap.size w W) => All_c A A3 n c n3 c3 ps ks W (h.kept hW) (hk.kept hW))
  clear h hk hs
  go_enter Try.func6, Try.ntmps6
  go_wp2_with fail
  refine QS.out.mono ?_
  rintro e w1 ⟨q, rfl, hq, hb⟩
  have HB := hide hb
  clear QS hb
  cases q with
  | false =>
    clear hq
    go_wp2_with fail
    refine (QA.out _).mono ?_
    rintro e w2 ⟨rfl, hb⟩
    replace HB := hide (Bel.then HB.out hb)
    clear hb
    go_wp2_with fail
    go_ret
    exact ⟨rfl, HB.out⟩
  | true =>
    obtain ⟨hn, h40⟩ := hq rfl
    have H40 := hide h40
    clear hq h40
    go_wp2_with fail
    refine (QL.out _ HB.out).mono ?_
    rintro e w2 ⟨q, rfl, hq, hb⟩
    replace HB := hide (Bel.then HB.out hb)
    clear QL hb
    cases q with
    | false =>
      clear hq
      go_wp2_with fail
      refine (QA.out _).mono ?_
      rintro e w3 ⟨rfl, hb⟩
      replace HB := hide (Bel.then HB.out hb)
      clear hb
      go_wp2_with fail
      go_ret
      exact ⟨rfl, HB.out⟩
    | true =>
      have hgd : ∀ p ∈ ps, GoodR ks p.2 := fun p hp => ⟨hq rfl p hp, HS.out p hp, by have := H40.out p hp; omega⟩
      have hgr : ∀ r ∈ sndL ps, GoodR ks r := fun r hr => by
        obtain ⟨p, hp, rfl⟩ := List.mem_map.1 hr
        exact hgd p hp
      have hsl : (sndL ps).length = n := by show (ps.map Prod.snd).length = n; rw [List.length_map]; exact hl
      obtain ⟨kR, hkR⟩ : ∃ kR, (max room 1).toNat = kR := ⟨_, rfl⟩
      have hk1 : 1 ≤ kR := by omega
      have Q1 := hide (fun (W : World) (hW : Below w.heap.size w W) => Runs_c A A3 n c n3 c3 room ps ks W (HP.out.kept hW) (HK.out.kept hW) (by omega) (fun p hp => (hgd p hp).len))
      have Q2 := hide (fun (W : World) (hW : Below w.heap.size w W) => rRuns_c A A3 n c n3 c3 room ps ks W (HP.out.kept hW) (HK.out.kept hW) (by omega) hgd)
      have Q3 := hide (fun (W : World) (hW : Below w.heap.size w W) => SortO_c A A3 n c n3 c3 ps ks W (HP.out.kept hW) (HK.out.kept hW) (by omega) (fun r hr => (hgr r hr).len))
      rw [hkR] at Q1 Q2
      have HM := hide (runs_merged (n := n) hk1 (by omega) (fun r hr => (hgr r hr).all))
      have HSum := hide (runs_sum (ks := ks) (n := n) (S := sndL ps) hk1 (by omega))
      have HMem : Hid (∀ l ∈ (cutN kR n (sndL ps)).map (sortR ks), ∀ r ∈ l, GoodR ks r) := fun l hl r hr => hgr r (runs_mem hk1 (by omega) hl hr)
      have HLen : Hid (((cutN kR n (sndL ps)).map (sortR ks)).length ≤ n) := by show _ ≤ _; rw [List.length_map]; exact runs_len n _
      have HSm : Hid (∀ r ∈ sortR ks (sndL ps), GoodR ks r) := fun r hr => hgr r ((sortR_perm ks _).mem_iff.1 hr)
      have HSl := hide hsl
      generalize (cutN kR n (sndL ps)).map (sortR ks) = R at *
      generalize sortR ks (sndL ps) = S at *
      clear hq hgd hgr hsl hkR hk1 HS H40
      go_wp2_with fail
      refine (Q1.out _ HB.out).mono ?_
      rintro e w3 ⟨X, cx, gs, rfl, hx, hr, hb⟩
      replace HB := hide (Bel.then HB.out hb)
      have HX := hide hx.gs'
      have HR := hide hr
      clear Q1 hb hx hr
      go_wp2_with fail
      refine (Q2.out _ HB.out).mono ?_
      rintro e w4 ⟨Y, cy, gs2, rfl, hy, hr, hb⟩
      replace HB := hide (Bel.then HB.out hb)
      replace HX := hide (HX.out.kept hb)
      have HY := hide hy.gs'
      have HR2 := hide hr
      have hle : gs2.length = gs.length := by
        have h1 := congrArg List.length HR.out
        have h2 := congrArg List.length hr
        unfold rowsG at h1 h2
        rw [List.length_map] at h1 h2
        omega
      have hgl : gs.length ≤ n := by
        have h1 := congrArg List.length HR.out
        have h2 := HLen.out
        unfold rowsG at h1
        rw [List.length_map] at h1
        omega
      rw [hle] at HY ⊢
      have HLe := hide hle
      clear Q2 hb hy hr hle HLen
      obtain ⟨N, hN⟩ : ∃ N, gs.length = N := ⟨_, rfl⟩
      rw [hN] at HX HY HLe hgl ⊢
      have HN := hide hN
      clear hN
      have hne : ((N : Int) != (N : Int)) = false := by simp
      have HB0 := hide HB.out
      have HB4 := hide (Below.refl w4.heap.size w4)
      go_wp2_with fail
      go_loopw [9] (fun iv wr => ∃ i : Nat, i ≤ N ∧ iv = .int .i64 i ∧ Hid (Below w4.heap.size w4 wr)) (fun iv _ => N - (intOf iv).toNat)
      case atStart => exact ⟨0, Nat.zero_le _, rfl, HB4⟩
      case round =>
        clear HB4
        obtain ⟨i, hin, rfl, HB4⟩ := hrel
        by_cases hlt : i < N
        · have hlti : (i : Int) < N := by omega
          have hwi : IntKind.i64.wrap ((i : Int) + 1) = (i : Int) + 1 := IntWalk.i64_in _ (by omega)
          obtain ⟨b, off, p, rfl, hp, Ha⟩ := (HX.out.kept HB4.out).head hlt
          obtain ⟨b2, off2, q, rfl, hq, Hb⟩ := (HY.out.kept HB4.out).head hlt
          have e1 := rowsG_at hp
          have e2 := rowsG_at hq
          rw [HR.out] at e1
          rw [HR2.out] at e2
          have hm := HMem.out _ (List.mem_of_getElem? e1)
          have hm2 := HMem.out _ (List.mem_of_getElem? e2)
          have Q := hide (fun (W : World) (hW : Below w4.heap.size w4 W) => List_c p.1.A q.1.A p.1.n p.1.c q.1.n q.1.c p.2 q.2 W ((HX.out.each p (List.mem_of_getElem? hp)).kept hW) ((HY.out.each q (List.mem_of_getElem? hq)).kept hW) (fun r hr => (hm _ (List.mem_map.2 ⟨r, hr, rfl⟩)).strs) (fun r hr => (hm2 _ (List.mem_map.2 ⟨r, hr, rfl⟩)).strs))
          have HE : Hid (sndL p.2 = sndL q.2) := by rw [e1] at e2; exact Option.some.inj e2
          clear e1 e2 hm hm2 hp hq
          generalize p.1.A = pA at *
          generalize p.1.n = pn at *
          generalize p.1.c = pc at *
          generalize q.1.A = qA at *
          generalize q.1.n = qn at *
          generalize q.1.c = qc at *
          replace Ha := hide Ha
          replace Hb := hide Hb
          go_upto_region 9 with (fail)
          refine wp_region_held_drew (S := (fun w' => HeadAt w' b (off + i) pA pn pc ∧ HeadAt w' b2 (off2 + i) qA qn qc ∧ Below w4.heap.size w4 w')) (by kernel_rfl) (⟨Ha.out.kept (Below.refl _ _).drew, Hb.out.kept (Below.refl _ _).drew, HB4.out.drew⟩) (fun hHeld => ?_)
          first | (refine wpAnyH_take (i := 0) (v := ?_) nth0 (by kernel_rfl) (by kernel_rfl) (by kernel_rfl) (fun _ _ _ h => h) (Or.inl ⟨by rfl, ?_⟩) hHeld ?_; rotate_left; focus (intro wS hSw; (obtain ⟨_, a_0⟩ := hSw.1; obtain ⟨_, b_0⟩ := hSw.2.1); go_simp; try with_reducible rfl; done)) | (refine wpAnyH_take (i := 0) (v := undef) nth0 (by kernel_rfl) (by kernel_rfl) (by kernel_rfl) (fun _ _ _ h => h) (Or.inr ⟨by rfl, rfl⟩) hHeld ?_)
          (try simp only [Act.put]); (try simp only [List.setIfInBounds_toArray]); (try simp only [List.set_cons_succ]); (try simp only [List.set_cons_zero])
          first | (refine wpAnyH_take (i := 1) (v := ?_) nth1 (by kernel_rfl) (by kernel_rfl) (by kernel_rfl) (fun _ _ _ h => h) (Or.inl ⟨by rfl, ?_⟩) hHeld ?_; rotate_left; focus (intro wS hSw; (obtain ⟨_, a_0⟩ := hSw.1; obtain ⟨_, b_0⟩ := hSw.2.1); go_simp; try with_reducible rfl; done)) | (refine wpAnyH_take (i := 1) (v := undef) nth1 (by kernel_rfl) (by kernel_rfl) (by kernel_rfl) (fun _ _ _ h => h) (Or.inr ⟨by rfl, rfl⟩) hHeld ?_)
          (try simp only [Act.put]); (try simp only [List.setIfInBounds_toArray]); (try simp only [List.set_cons_succ]); (try simp only [List.set_cons_zero])
          first | (refine wpAnyH_take (i := 2) (v := ?_) nth2 (by kernel_rfl) (by kernel_rfl) (by kernel_rfl) (fun _ _ _ h => h) (Or.inl ⟨by rfl, ?_⟩) hHeld ?_; rotate_left; focus (intro wS hSw; (obtain ⟨_, a_0⟩ := hSw.1; obtain ⟨_, b_0⟩ := hSw.2.1); go_simp; try with_reducible rfl; done)) | (refine wpAnyH_take (i := 2) (v := undef) nth2 (by kernel_rfl) (by kernel_rfl) (by kernel_rfl) (fun _ _ _ h => h) (Or.inr ⟨by rfl, rfl⟩) hHeld ?_)
          (try simp only [Act.put]); (try simp only [List.setIfInBounds_toArray]); (try simp only [List.set_cons_succ]); (try simp only [List.set_cons_zero])
          first | (refine wpAnyH_take (i := 3) (v := ?_) nth3 (by kernel_rfl) (by kernel_rfl) (by kernel_rfl) (fun _ _ _ h => h) (Or.inl ⟨by rfl, ?_⟩) hHeld ?_; rotate_left; focus (intro wS hSw; (obtain ⟨_, a_0⟩ := hSw.1; obtain ⟨_, b_0⟩ := hSw.2.1); go_simp; try with_reducible rfl; done)) | (refine wpAnyH_take (i := 3) (v := undef) nth3 (by kernel_rfl) (by kernel_rfl) (by kernel_rfl) (fun _ _ _ h => h) (Or.inr ⟨by rfl, rfl⟩) hHeld ?_)
          (try simp only [Act.put]); (try simp only [List.setIfInBounds_toArray]); (try simp only [List.set_cons_succ]); (try simp only [List.set_cons_zero])
          first | (refine wpAnyH_take (i := 4) (v := ?_) nth4 (by kernel_rfl) (by kernel_rfl) (by kernel_rfl) (fun _ _ _ h => h) (Or.inl ⟨by rfl, ?_⟩) hHeld ?_; rotate_left; focus (intro wS hSw; (obtain ⟨_, a_0⟩ := hSw.1; obtain ⟨_, b_0⟩ := hSw.2.1); go_simp; try with_reducible rfl; done)) | (refine wpAnyH_take (i := 4) (v := undef) nth4 (by kernel_rfl) (by kernel_rfl) (by kernel_rfl) (fun _ _ _ h => h) (Or.inr ⟨by rfl, rfl⟩) hHeld ?_)
          (try simp only [Act.put]); (try simp only [List.setIfInBounds_toArray]); (try simp only [List.set_cons_succ]); (try simp only [List.set_cons_zero])
          first | (refine wpAnyH_take (i := 5) (v := ?_) nth5 (by kernel_rfl) (by kernel_rfl) (by kernel_rfl) (fun _ _ _ h => h) (Or.inl ⟨by rfl, ?_⟩) hHeld ?_; rotate_left; focus (intro wS hSw; (obtain ⟨_, a_0⟩ := hSw.1; obtain ⟨_, b_0⟩ := hSw.2.1); go_simp; try with_reducible rfl; done)) | (refine wpAnyH_take (i := 5) (v := undef) nth5 (by kernel_rfl) (by kernel_rfl) (by kernel_rfl) (fun _ _ _ h => h) (Or.inr ⟨by rfl, rfl⟩) hHeld ?_)
          (try simp only [Act.put]); (try simp only [List.setIfInBounds_toArray]); (try simp only [List.set_cons_succ]); (try simp only [List.set_cons_zero])
          first | (refine wpAnyH_take (i := 6) (v := ?_) nth6 (by kernel_rfl) (by kernel_rfl) (by kernel_rfl) (fun _ _ _ h => h) (Or.inl ⟨by rfl, ?_⟩) hHeld ?_; rotate_left; focus (intro wS hSw; (obtain ⟨_, a_0⟩ := hSw.1; obtain ⟨_, b_0⟩ := hSw.2.1); go_simp; try with_reducible rfl; done)) | (refine wpAnyH_take (i := 6) (v := undef) nth6 (by kernel_rfl) (by kernel_rfl) (by kernel_rfl) (fun _ _ _ h => h) (Or.inr ⟨by rfl, rfl⟩) hHeld ?_)
          (try simp only [Act.put]); (try simp only [List.setIfInBounds_toArray]); (try simp only [List.set_cons_succ]); (try simp only [List.set_cons_zero])
          first | (refine wpAnyH_take (i := 7) (v := ?_) nth7 (by kernel_rfl) (by kernel_rfl) (by kernel_rfl) (fun _ _ _ h => h) (Or.inl ⟨by rfl, ?_⟩) hHeld ?_; rotate_left; focus (intro wS hSw; (obtain ⟨_, a_0⟩ := hSw.1; obtain ⟨_, b_0⟩ := hSw.2.1); go_simp; try with_reducible rfl; done)) | (refine wpAnyH_take (i := 7) (v := undef) nth7 (by kernel_rfl) (by kernel_rfl) (by kernel_rfl) (fun _ _ _ h => h) (Or.inr ⟨by rfl, rfl⟩) hHeld ?_)
          (try simp only [Act.put]); (try simp only [List.setIfInBounds_toArray]); (try simp only [List.set_cons_succ]); (try simp only [List.set_cons_zero])
          refine wpAnyH_ready (rs := [8]) (by kernel_rfl) (by simp) ?_
          refine AllReadyH.cons nth8 (fun K hK => ?_) AllReadyH.nil
          go_simp
          (go_at_call 15; refine (Q.out _ hHeld.2.2).mono ?_; rintro e w' ⟨qq, rfl, hqq, hb⟩; obtain rfl : qq = true := hqq.2 HE.out; clear hqq)
          refine hK.out _ _ (⟨hHeld.1.kept hb, hHeld.2.1.kept hb, Bel.then hHeld.2.2 hb⟩) (fun hHeld => ?_)
          clear hK K
          (try simp only [Act.put]); (try simp only [List.setIfInBounds_toArray]); (try simp only [List.set_cons_succ]); (try simp only [List.set_cons_zero])
          first | (refine wpAnyH_take (i := 9) (v := ?_) nth9 (by kernel_rfl) (by kernel_rfl) (by kernel_rfl) (fun _ _ _ h => h) (Or.inl ⟨by rfl, ?_⟩) hHeld ?_; rotate_left; focus (intro wS hSw; (obtain ⟨_, a_0⟩ := hSw.1; obtain ⟨_, b_0⟩ := hSw.2.1); go_simp; try with_reducible rfl; done)) | (refine wpAnyH_take (i := 9) (v := undef) nth9 (by kernel_rfl) (by kernel_rfl) (by kernel_rfl) (fun _ _ _ h => h) (Or.inr ⟨by rfl, rfl⟩) hHeld ?_)
          (try simp only [Act.put]); (try simp only [List.setIfInBounds_toArray]); (try simp only [List.set_cons_succ]); (try simp only [List.set_cons_zero])
          refine wpAnyH_done (by kernel_rfl) ?_ _
          replace HB4 := hide hHeld.2.2
          clear hHeld Ha Hb Q
          go_wp2_with fail
          go_roundw
          case rel => exact ⟨i + 1, by omega, by go_num, HB4⟩
          case measure => simp [intOf]; omega
        · have hlti : ¬ (i : Int) < N := by omega
          replace HB := hide (Bel.then HB.out HB4.out)
          have Q4 := hide (fun (W : World) (hW : Below w4.heap.size w4 W) => Merge_c X A3 N cx n3 c3 gs ks W (HX.out.kept hW) (HK.out.kept (Bel.then HB0.out hW)) (by omega) (by rw [HR.out, HSum.out, HSl.out]; omega) (fun r hr => by rw [HR.out, HM.out] at hr; exact (HSm.out r hr).len))
          rw [HR.out, HSum.out, HSl.out, HM.out] at Q4
          clear HX HY HR HR2 HMem
          go_wp2_with fail
          refine (QA.out _).mono ?_
          rintro e w5 ⟨rfl, hb⟩
          replace HB := hide (Bel.then HB.out hb)
          replace HB4 := hide (Bel.then HB4.out hb)
          clear hb
          go_wp2_with fail
          refine (Q4.out _ HB4.out).mono ?_
          rintro e w6 ⟨A4, c4, rfl, hX, hb⟩
          replace HB := hide (Bel.then HB.out hb)
          obtain ⟨xs, hxs, hsnd⟩ := HsAt.of_nest hX
          have HXs := hide hxs
          have HE := hide hsnd
          clear hb hX hxs hsnd HB4
          go_wp2_with fail
          refine (Q3.out _ HB.out).mono ?_
          rintro e w7 ⟨A5, c5, ys, rfl, hy, he, hb⟩
          replace HB := hide (Bel.then HB.out hb)
          replace HXs := hide (HXs.out.kept hb)
          have HYs := hide hy.hs
          have HF := hide he
          clear hb hy he
          have QT := hide (List_c A4 A5 n c4 n c5 xs ys w7 HXs.out HYs.out (fun p hp => (HSm.out p.2 (by rw [← HE.out]; exact List.mem_map.2 ⟨p, hp, rfl⟩)).strs) (fun p hp => (HSm.out p.2 (by rw [← HF.out]; exact List.mem_map.2 ⟨p, hp, rfl⟩)).strs))
          go_wp2_with fail
          refine QT.out.mono ?_
          rintro e w8 ⟨q, rfl, hq, hb⟩
          obtain rfl : q = true := hq.2 (HE.out.trans HF.out.symm)
          replace HB := hide (Bel.then HB.out hb)
          clear hb hq QT
          go_wp2_with fail
          go_ret
          exact ⟨rfl, HB.out⟩
end Go.Proofs.Ytahdkfenpflahaa
