/- Contracts: the reference's Pick, and SameHeld. -/
import Derived.Test.YtebamnlknaoehaaVrI
import Derived.BigRegion
namespace Go.Proofs.Ytebamnlknaoehaa
set_option linter.unusedVariables false
open Go.ChangeShapes Go.WideShapes Go.ChangeAt Go.RowKit

set_option maxRecDepth 100000 in
set_option maxHeartbeats 2000000 in
theorem rpick_c (A : Option Addr) (n c : Nat) (s : Int) (ps : List HeldP) (w : World) (h : HeldsAt w w.heap.size A n c ps) (hn : n ≤ 1048576) :
    Calls Try.prog 20 #[.slice A n c, .int .i64 s] w (GivesPick w s ps) := by
  have H := hide h
  have HL := hide h.sl.len
  obtain ⟨i0, hi0, hz0, hz1, hz2⟩ := info_parts held_info
  clear h
  go_enter Try.func20, Try.ntmps20
  go_wp2_with fail
  go_loopw [5, 6] (fun u i wr => ∃ (k : Nat) (qs : List HeldP), k ≤ n ∧ i = .int .i64 k ∧ qs.length ≤ k ∧ Hid (PickR w wr u qs ∧ qs.map keyH = ((ps.take k).filter (seenP s)).map keyH)) (fun _ i _ => n - (intOf i).toNat)
  case atStart => exact ⟨0, [], Nat.zero_le _, rfl, Nat.le_refl _, ⟨⟨Below.refl _ _, World.ownsRow_nil _ _ _ _, by simp, by simp⟩, rfl⟩⟩
  case round =>
    obtain ⟨k, qs, hk, rfl, hqk, HI⟩ := hrel
    by_cases hlt : k < n
    · obtain ⟨hPR, hkey⟩ := HI.out
      have hps := H.out.below hPR.below
      obtain ⟨b, off, p, rfl, hb, hpk, hc0, hc1, hc2, hc3, hc4, hc5⟩ := hps.at hlt
      have hrow0 := hps.rows p (List.mem_of_getElem? hpk)
      have hrow := hrow0.more hPR.below.size
      have hfar : ∀ ad, p.1.A = some ad → 0 < p.2.length → some ad.block ≠ u5.ownBlock := fun ad hA hr e => by
        have h1 := row_lt hrow0 hA hr
        have h2 := (hPR.own.lt ad.block e.symm).1
        omega
      have ht := take_at hpk
      have hkey2 : ((ps.take (k + 1)).filter (seenP s)).map keyH = qs.map keyH ++ (if seenP s p then [keyH p] else []) := by
        rw [ht, List.filter_append, List.map_append, ← hkey]
        by_cases hs : seenP s p = true <;> simp [List.filter, hs]
      have HR := hide hPR
      have HRow := hide hrow
      have HFar := hide hfar
      have HKey := hide hkey2
      have hsx : Hid (seenP s p = seenG p.1.b p.1.c s) := rfl
      clear hPR hkey hps hpk hrow hrow0 hfar ht hkey2 HI
      obtain ⟨⟨pa, pb, pc, pA, pn, pk, pg, sl⟩, r⟩ := p
      simp only at hc0 hc1 hc2 hc3 hc4 hc5 HRow hsx HFar
      have QS := hide (fun W => rseen_c pa pb pc s pA pn pk W)
      unfold verAgg at QS
      generalize seenG pb pc s = x at *
      have hbw : b < wr.heap.size := by have := HR.out.below.size; omega
      go_wp2_with fail
      refine (QS.out _).mono ?_
      rintro e w2 ⟨rfl, hb2⟩
      have HR2 := hide (HR.out.kept hb2)
      have HRow2 := hide (HRow.out.kept hb2)
      have k0 := kept hb2 hc0
      have k1 := kept hb2 hc1
      have k2 := kept hb2 hc2
      have k3 := kept hb2 hc3
      have k4 := kept hb2 hc4
      have k5 := kept hb2 hc5
      clear hb2 QS HR HRow hc0 hc1 hc2 hc3 hc4 hc5
      cases x
      · go_wp2_with fail
        go_roundw
        case rel => exact ⟨k + 1, qs, by omega, by go_num, by omega, ⟨HR2.out, by rw [HKey.out, hsx.out]; simp⟩⟩
        case measure => simp [intOf]; omega
      · go_wp2_with (at_builtin; refine wpList_app rfl (.tmp 20) (.tmp 25) 35 rfl w.heap.size 40 i0 _ 6 64 Try.underlying35 hi0 hz0 hz1 hz2 rfl (by omega) u5 qs.length _ rfl (HR2.out.own.alloc _) _ _ 1 1 (heldCells ⟨pa, pb, pc, pA, pn, pk, pg, sl⟩) rfl rfl (cells_lit w2 #[.int .i64 pa, .int .i64 pb, .int .i64 pc, .slice pA pn pk, .int .i64 pg, .int .i64 sl] 40) (by simp [heldCells, Value.oneCell']) (by simp only [maxLen]; omega) (by omega) (by have := HR2.out.below.size; simp; omega) (by simp) ?_; intro v4 w4 hown4 hg4 hat4)
        have HR4 := hide ((HR2.out.kept (Bel.one w2 _)).more (q := (⟨pa, pb, pc, pA, pn, pk, pg, sl⟩, r)) (HRow2.out.kept (Bel.one w2 _)) HFar.out hg4 hat4 hown4)
        clear hown4 hg4 hat4 HR2 HRow2 HFar k0 k1 k2 k3 k4 k5
        go_wp2_with fail
        go_roundw
        case rel => exact ⟨k + 1, qs ++ [(⟨pa, pb, pc, pA, pn, pk, pg, sl⟩, r)], by omega, by go_num, by simp; omega, ⟨HR4.out, by rw [HKey.out, hsx.out, if_pos rfl, List.map_append]; rfl⟩⟩
        case measure => simp [intOf]; omega
    · obtain rfl : k = n := by omega
      obtain ⟨hPR, hkey⟩ := HI.out
      rw [← HL.out, List.take_length] at hkey
      obtain ⟨A', c', rfl, hS⟩ := hPR.done
      have HS := hide hS
      have HB := hide hPR.below
      have HK := hide hkey
      clear hPR hkey hS HI
      go_wp2_with fail
      go_ret
      exact ⟨A', c', qs, rfl, HS.out, HB.out, HK.out⟩
theorem key_at {qs ps : List HeldP} (h : qs.map keyH = ps.map keyH) {k : Nat} {q p : HeldP} (hq : qs[k]? = some q) (hp : ps[k]? = some p) : keyH q = keyH p := by
  have h1 : (qs.map keyH)[k]? = some (keyH q) := by rw [List.getElem?_map, hq]; rfl
  rw [h, List.getElem?_map, hp] at h1
  injection h1 with h1
  exact h1.symm
set_option maxRecDepth 100000 in
set_option maxHeartbeats 2000000 in
theorem sameHeld_c (A B : Option Addr) (n c d : Nat) (qs ps : List HeldP) (w : World) (h : HeldsAt w w.heap.size A n c qs) (h2 : HeldsAt w w.heap.size B n d ps) (hkey : qs.map keyH = ps.map keyH) (hst : ∀ p ∈ ps, StrsOk p.2) (hn : n ≤ 1048576) :
    Calls Try.prog 18 #[.slice A n c, .slice B n d] w fun e w' => e = .returned (.bool true) ∧ Below w.heap.size w w' := by
  have H := hide h
  have H2 := hide h2
  have HK := hide hkey
  have HT := hide hst
  clear h h2 hkey hst
  go_enter Try.func18, Try.ntmps18
  go_wp2_with fail
  go_loopw [5] (fun i wr => ∃ k : Nat, k ≤ n ∧ i = .int .i64 k ∧ Hid (Below w.heap.size w wr)) (fun i _ => n - (intOf i).toNat)
  case atStart => exact ⟨0, Nat.zero_le _, rfl, Below.refl _ _⟩
  case round =>
    obtain ⟨k, hk, rfl, HB⟩ := hrel
    by_cases hlt : k < n
    · have hqs := H.out.kept HB.out
      have hps := H2.out.kept HB.out
      obtain ⟨b, off, q, rfl, hb, hq, c0, c1, c2, c3, c4, c5⟩ := hqs.at hlt
      obtain ⟨b2, off2, p, rfl, hb2, hp, d0, d1, d2, d3, d4, d5⟩ := hps.at hlt
      have hkk := key_at HK.out hq hp
      have hs := HT.out p (List.mem_of_getElem? hp)
      have hrq := hqs.rows q (List.mem_of_getElem? hq)
      have hrp := hps.rows p (List.mem_of_getElem? hp)
      clear hqs hps hq hp
      obtain ⟨⟨qa, qb, qc, qA, qn, qk, qg, ql⟩, r⟩ := q
      obtain ⟨⟨pa, pb, pc, pA, pn, pk, pg, pl⟩, r2⟩ := p
      simp only [keyH, Prod.mk.injEq] at hkk
      obtain ⟨rfl, rfl, rfl, rfl, rfl, rfl⟩ := hkk
      simp only at c0 c1 c2 c3 c4 c5 d0 d1 d2 d3 d4 d5 hs hrq hrp
      have QS := hide (fun (W : World) (hW : Below wr.heap.size wr W) => same_c qa qb qc qa qb qc qA pA qn qk pn pk r r W (hrq.kept hW) (hrp.kept hW) hs hs)
      rw [cmpR_refl, same_self] at QS
      unfold verAgg at QS
      clear hs hrq hrp
      go_wp2_with fail
      refine wp_region_held_drew (S := (fun w' => Below wr.heap.size wr w')) (by kernel_rfl) ((Below.refl _ _).drew) (fun hHeld => ?_)
      first | (refine wpAnyH_take (i := 0) (v := ?_) nth0 (by kernel_rfl) (by kernel_rfl) (by kernel_rfl) (fun _ _ _ h => h) (Or.inl ⟨by rfl, ?_⟩) hHeld ?_; rotate_left; focus (intro wS hSw; (have k0 := kept hSw c0; have k1 := kept hSw c1; have k2 := kept hSw c2; have k3 := kept hSw c3; have k4 := kept hSw c4; have k5 := kept hSw c5; have l0 := kept hSw d0; have l1 := kept hSw d1; have l2 := kept hSw d2; have l3 := kept hSw d3; have l4 := kept hSw d4; have l5 := kept hSw d5); go_simp; try with_reducible rfl; done)) | (refine wpAnyH_take (i := 0) (v := undef) nth0 (by kernel_rfl) (by kernel_rfl) (by kernel_rfl) (fun _ _ _ h => h) (Or.inr ⟨by rfl, rfl⟩) hHeld ?_)
      (try simp only [Act.put]); (try simp only [List.setIfInBounds_toArray]); (try simp only [List.set_cons_succ]); (try simp only [List.set_cons_zero])
      first | (refine wpAnyH_take (i := 1) (v := ?_) nth1 (by kernel_rfl) (by kernel_rfl) (by kernel_rfl) (fun _ _ _ h => h) (Or.inl ⟨by rfl, ?_⟩) hHeld ?_; rotate_left; focus (intro wS hSw; (have k0 := kept hSw c0; have k1 := kept hSw c1; have k2 := kept hSw c2; have k3 := kept hSw c3; have k4 := kept hSw c4; have k5 := kept hSw c5; have l0 := kept hSw d0; have l1 := kept hSw d1; have l2 := kept hSw d2; have l3 := kept hSw d3; have l4 := kept hSw d4; have l5 := kept hSw d5); go_simp; try with_reducible rfl; done)) | (refine wpAnyH_take (i := 1) (v := undef) nth1 (by kernel_rfl) (by kernel_rfl) (by kernel_rfl) (fun _ _ _ h => h) (Or.inr ⟨by rfl, rfl⟩) hHeld ?_)
      (try simp only [Act.put]); (try simp only [List.setIfInBounds_toArray]); (try simp only [List.set_cons_succ]); (try simp only [List.set_cons_zero])
      first | (refine wpAnyH_take (i := 2) (v := ?_) nth2 (by kernel_rfl) (by kernel_rfl) (by kernel_rfl) (fun _ _ _ h => h) (Or.inl ⟨by rfl, ?_⟩) hHeld ?_; rotate_left; focus (intro wS hSw; (have k0 := kept hSw c0; have k1 := kept hSw c1; have k2 := kept hSw c2; have k3 := kept hSw c3; have k4 := kept hSw c4; have k5 := kept hSw c5; have l0 := kept hSw d0; have l1 := kept hSw d1; have l2 := kept hSw d2; have l3 := kept hSw d3; have l4 := kept hSw d4; have l5 := kept hSw d5); go_simp; try with_reducible rfl; done)) | (refine wpAnyH_take (i := 2) (v := undef) nth2 (by kernel_rfl) (by kernel_rfl) (by kernel_rfl) (fun _ _ _ h => h) (Or.inr ⟨by rfl, rfl⟩) hHeld ?_)
      (try simp only [Act.put]); (try simp only [List.setIfInBounds_toArray]); (try simp only [List.set_cons_succ]); (try simp only [List.set_cons_zero])
      first | (refine wpAnyH_take (i := 3) (v := ?_) nth3 (by kernel_rfl) (by kernel_rfl) (by kernel_rfl) (fun _ _ _ h => h) (Or.inl ⟨by rfl, ?_⟩) hHeld ?_; rotate_left; focus (intro wS hSw; (have k0 := kept hSw c0; have k1 := kept hSw c1; have k2 := kept hSw c2; have k3 := kept hSw c3; have k4 := kept hSw c4; have k5 := kept hSw c5; have l0 := kept hSw d0; have l1 := kept hSw d1; have l2 := kept hSw d2; have l3 := kept hSw d3; have l4 := kept hSw d4; have l5 := kept hSw d5); go_simp; try with_reducible rfl; done)) | (refine wpAnyH_take (i := 3) (v := undef) nth3 (by kernel_rfl) (by kernel_rfl) (by kernel_rfl) (fun _ _ _ h => h) (Or.inr ⟨by rfl, rfl⟩) hHeld ?_)
      (try simp only [Act.put]); (try simp only [List.setIfInBounds_toArray]); (try simp only [List.set_cons_succ]); (try simp only [List.set_cons_zero])
      first | (refine wpAnyH_take (i := 4) (v := ?_) nth4 (by kernel_rfl) (by kernel_rfl) (by kernel_rfl) (fun _ _ _ h => h) (Or.inl ⟨by rfl, ?_⟩) hHeld ?_; rotate_left; focus (intro wS hSw; (have k0 := kept hSw c0; have k1 := kept hSw c1; have k2 := kept hSw c2; have k3 := kept hSw c3; have k4 := kept hSw c4; have k5 := kept hSw c5; have l0 := kept hSw d0; have l1 := kept hSw d1; have l2 := kept hSw d2; have l3 := kept hSw d3; have l4 := kept hSw d4; have l5 := kept hSw d5); go_simp; try with_reducible rfl; done)) | (refine wpAnyH_take (i := 4) (v := undef) nth4 (by kernel_rfl) (by kernel_rfl) (by kernel_rfl) (fun _ _ _ h => h) (Or.inr ⟨by rfl, rfl⟩) hHeld ?_)
      (try simp only [Act.put]); (try simp only [List.setIfInBounds_toArray]); (try simp only [List.set_cons_succ]); (try simp only [List.set_cons_zero])
      first | (refine wpAnyH_take (i := 5) (v := ?_) nth5 (by kernel_rfl) (by kernel_rfl) (by kernel_rfl) (fun _ _ _ h => h) (Or.inl ⟨by rfl, ?_⟩) hHeld ?_; rotate_left; focus (intro wS hSw; (have k0 := kept hSw c0; have k1 := kept hSw c1; have k2 := kept hSw c2; have k3 := kept hSw c3; have k4 := kept hSw c4; have k5 := kept hSw c5; have l0 := kept hSw d0; have l1 := kept hSw d1; have l2 := kept hSw d2; have l3 := kept hSw d3; have l4 := kept hSw d4; have l5 := kept hSw d5); go_simp; try with_reducible rfl; done)) | (refine wpAnyH_take (i := 5) (v := undef) nth5 (by kernel_rfl) (by kernel_rfl) (by kernel_rfl) (fun _ _ _ h => h) (Or.inr ⟨by rfl, rfl⟩) hHeld ?_)
      (try simp only [Act.put]); (try simp only [List.setIfInBounds_toArray]); (try simp only [List.set_cons_succ]); (try simp only [List.set_cons_zero])
      first | (refine wpAnyH_take (i := 6) (v := ?_) nth6 (by kernel_rfl) (by kernel_rfl) (by kernel_rfl) (fun _ _ _ h => h) (Or.inl ⟨by rfl, ?_⟩) hHeld ?_; rotate_left; focus (intro wS hSw; (have k0 := kept hSw c0; have k1 := kept hSw c1; have k2 := kept hSw c2; have k3 := kept hSw c3; have k4 := kept hSw c4; have k5 := kept hSw c5; have l0 := kept hSw d0; have l1 := kept hSw d1; have l2 := kept hSw d2; have l3 := kept hSw d3; have l4 := kept hSw d4; have l5 := kept hSw d5); go_simp; try with_reducible rfl; done)) | (refine wpAnyH_take (i := 6) (v := undef) nth6 (by kernel_rfl) (by kernel_rfl) (by kernel_rfl) (fun _ _ _ h => h) (Or.inr ⟨by rfl, rfl⟩) hHeld ?_)
      (try simp only [Act.put]); (try simp only [List.setIfInBounds_toArray]); (try simp only [List.set_cons_succ]); (try simp only [List.set_cons_zero])
      first | (refine wpAnyH_take (i := 7) (v := ?_) nth7 (by kernel_rfl) (by kernel_rfl) (by kernel_rfl) (fun _ _ _ h => h) (Or.inl ⟨by rfl, ?_⟩) hHeld ?_; rotate_left; focus (intro wS hSw; (have k0 := kept hSw c0; have k1 := kept hSw c1; have k2 := kept hSw c2; have k3 := kept hSw c3; have k4 := kept hSw c4; have k5 := kept hSw c5; have l0 := kept hSw d0; have l1 := kept hSw d1; have l2 := kept hSw d2; have l3 := kept hSw d3; have l4 := kept hSw d4; have l5 := kept hSw d5); go_simp; try with_reducible rfl; done)) | (refine wpAnyH_take (i := 7) (v := undef) nth7 (by kernel_rfl) (by kernel_rfl) (by kernel_rfl) (fun _ _ _ h => h) (Or.inr ⟨by rfl, rfl⟩) hHeld ?_)
      (try simp only [Act.put]); (try simp only [List.setIfInBounds_toArray]); (try simp only [List.set_cons_succ]); (try simp only [List.set_cons_zero])
      first | (refine wpAnyH_take (i := 8) (v := ?_) nth8 (by kernel_rfl) (by kernel_rfl) (by kernel_rfl) (fun _ _ _ h => h) (Or.inl ⟨by rfl, ?_⟩) hHeld ?_; rotate_left; focus (intro wS hSw; (have k0 := kept hSw c0; have k1 := kept hSw c1; have k2 := kept hSw c2; have k3 := kept hSw c3; have k4 := kept hSw c4; have k5 := kept hSw c5; have l0 := kept hSw d0; have l1 := kept hSw d1; have l2 := kept hSw d2; have l3 := kept hSw d3; have l4 := kept hSw d4; have l5 := kept hSw d5); go_simp; try with_reducible rfl; done)) | (refine wpAnyH_take (i := 8) (v := undef) nth8 (by kernel_rfl) (by kernel_rfl) (by kernel_rfl) (fun _ _ _ h => h) (Or.inr ⟨by rfl, rfl⟩) hHeld ?_)
      (try simp only [Act.put]); (try simp only [List.setIfInBounds_toArray]); (try simp only [List.set_cons_succ]); (try simp only [List.set_cons_zero])
      first | (refine wpAnyH_take (i := 9) (v := ?_) nth9 (by kernel_rfl) (by kernel_rfl) (by kernel_rfl) (fun _ _ _ h => h) (Or.inl ⟨by rfl, ?_⟩) hHeld ?_; rotate_left; focus (intro wS hSw; (have k0 := kept hSw c0; have k1 := kept hSw c1; have k2 := kept hSw c2; have k3 := kept hSw c3; have k4 := kept hSw c4; have k5 := kept hSw c5; have l0 := kept hSw d0; have l1 := kept hSw d1; have l2 := kept hSw d2; have l3 := kept hSw d3; have l4 := kept hSw d4; have l5 := kept hSw d5); go_simp; try with_reducible rfl; done)) | (refine wpAnyH_take (i := 9) (v := undef) nth9 (by kernel_rfl) (by kernel_rfl) (by kernel_rfl) (fun _ _ _ h => h) (Or.inr ⟨by rfl, rfl⟩) hHeld ?_)
      (try simp only [Act.put]); (try simp only [List.setIfInBounds_toArray]); (try simp only [List.set_cons_succ]); (try simp only [List.set_cons_zero])
      refine wpAnyH_ready (rs := [10]) (by kernel_rfl) (by simp) ?_
      refine AllReadyH.cons nth10 (fun K hK => ?_) AllReadyH.nil
      go_simp
      (go_at_call 13; refine (QS.out _ hHeld).mono ?_; rintro e w' ⟨rfl, hb⟩)
      refine hK.out _ _ (Bel.then hHeld hb) (fun hHeld => ?_)
      clear hK K
      (try simp only [Act.put]); (try simp only [List.setIfInBounds_toArray]); (try simp only [List.set_cons_succ]); (try simp only [List.set_cons_zero])
      first | (refine wpAnyH_take (i := 11) (v := ?_) nth11 (by kernel_rfl) (by kernel_rfl) (by kernel_rfl) (fun _ _ _ h => h) (Or.inl ⟨by rfl, ?_⟩) hHeld ?_; rotate_left; focus (intro wS hSw; (have k0 := kept hSw c0; have k1 := kept hSw c1; have k2 := kept hSw c2; have k3 := kept hSw c3; have k4 := kept hSw c4; have k5 := kept hSw c5; have l0 := kept hSw d0; have l1 := kept hSw d1; have l2 := kept hSw d2; have l3 := kept hSw d3; have l4 := kept hSw d4; have l5 := kept hSw d5); go_simp; try with_reducible rfl; done)) | (refine wpAnyH_take (i := 11) (v := undef) nth11 (by kernel_rfl) (by kernel_rfl) (by kernel_rfl) (fun _ _ _ h => h) (Or.inr ⟨by rfl, rfl⟩) hHeld ?_)
      (try simp only [Act.put]); (try simp only [List.setIfInBounds_toArray]); (try simp only [List.set_cons_succ]); (try simp only [List.set_cons_zero])
      first | (refine wpAnyH_take (i := 12) (v := ?_) nth12 (by kernel_rfl) (by kernel_rfl) (by kernel_rfl) (fun _ _ _ h => h) (Or.inl ⟨by rfl, ?_⟩) hHeld ?_; rotate_left; focus (intro wS hSw; (have k0 := kept hSw c0; have k1 := kept hSw c1; have k2 := kept hSw c2; have k3 := kept hSw c3; have k4 := kept hSw c4; have k5 := kept hSw c5; have l0 := kept hSw d0; have l1 := kept hSw d1; have l2 := kept hSw d2; have l3 := kept hSw d3; have l4 := kept hSw d4; have l5 := kept hSw d5); go_simp; try with_reducible rfl; done)) | (refine wpAnyH_take (i := 12) (v := undef) nth12 (by kernel_rfl) (by kernel_rfl) (by kernel_rfl) (fun _ _ _ h => h) (Or.inr ⟨by rfl, rfl⟩) hHeld ?_)
      (try simp only [Act.put]); (try simp only [List.setIfInBounds_toArray]); (try simp only [List.set_cons_succ]); (try simp only [List.set_cons_zero])
      first | (refine wpAnyH_take (i := 13) (v := ?_) nth13 (by kernel_rfl) (by kernel_rfl) (by kernel_rfl) (fun _ _ _ h => h) (Or.inl ⟨by rfl, ?_⟩) hHeld ?_; rotate_left; focus (intro wS hSw; (have k0 := kept hSw c0; have k1 := kept hSw c1; have k2 := kept hSw c2; have k3 := kept hSw c3; have k4 := kept hSw c4; have k5 := kept hSw c5; have l0 := kept hSw d0; have l1 := kept hSw d1; have l2 := kept hSw d2; have l3 := kept hSw d3; have l4 := kept hSw d4; have l5 := kept hSw d5); go_simp; try with_reducible rfl; done)) | (refine wpAnyH_take (i := 13) (v := undef) nth13 (by kernel_rfl) (by kernel_rfl) (by kernel_rfl) (fun _ _ _ h => h) (Or.inr ⟨by rfl, rfl⟩) hHeld ?_)
      (try simp only [Act.put]); (try simp only [List.setIfInBounds_toArray]); (try simp only [List.set_cons_succ]); (try simp only [List.set_cons_zero])
      first | (refine wpAnyH_take (i := 14) (v := ?_) nth14 (by kernel_rfl) (by kernel_rfl) (by kernel_rfl) (fun _ _ _ h => h) (Or.inl ⟨by rfl, ?_⟩) hHeld ?_; rotate_left; focus (intro wS hSw; (have k0 := kept hSw c0; have k1 := kept hSw c1; have k2 := kept hSw c2; have k3 := kept hSw c3; have k4 := kept hSw c4; have k5 := kept hSw c5; have l0 := kept hSw d0; have l1 := kept hSw d1; have l2 := kept hSw d2; have l3 := kept hSw d3; have l4 := kept hSw d4; have l5 := kept hSw d5); go_simp; try with_reducible rfl; done)) | (refine wpAnyH_take (i := 14) (v := undef) nth14 (by kernel_rfl) (by kernel_rfl) (by kernel_rfl) (fun _ _ _ h => h) (Or.inr ⟨by rfl, rfl⟩) hHeld ?_)
      (try simp only [Act.put]); (try simp only [List.setIfInBounds_toArray]); (try simp only [List.set_cons_succ]); (try simp only [List.set_cons_zero])
      first | (refine wpAnyH_take (i := 15) (v := ?_) nth15 (by kernel_rfl) (by kernel_rfl) (by kernel_rfl) (fun _ _ _ h => h) (Or.inl ⟨by rfl, ?_⟩) hHeld ?_; rotate_left; focus (intro wS hSw; (have k0 := kept hSw c0; have k1 := kept hSw c1; have k2 := kept hSw c2; have k3 := kept hSw c3; have k4 := kept hSw c4; have k5 := kept hSw c5; have l0 := kept hSw d0; have l1 := kept hSw d1; have l2 := kept hSw d2; have l3 := kept hSw d3; have l4 := kept hSw d4; have l5 := kept hSw d5); go_simp; try with_reducible rfl; done)) | (refine wpAnyH_take (i := 15) (v := undef) nth15 (by kernel_rfl) (by kernel_rfl) (by kernel_rfl) (fun _ _ _ h => h) (Or.inr ⟨by rfl, rfl⟩) hHeld ?_)
      (try simp only [Act.put]); (try simp only [List.setIfInBounds_toArray]); (try simp only [List.set_cons_succ]); (try simp only [List.set_cons_zero])
      first | (refine wpAnyH_take (i := 16) (v := ?_) nth16 (by kernel_rfl) (by kernel_rfl) (by kernel_rfl) (fun _ _ _ h => h) (Or.inl ⟨by rfl, ?_⟩) hHeld ?_; rotate_left; focus (intro wS hSw; (have k0 := kept hSw c0; have k1 := kept hSw c1; have k2 := kept hSw c2; have k3 := kept hSw c3; have k4 := kept hSw c4; have k5 := kept hSw c5; have l0 := kept hSw d0; have l1 := kept hSw d1; have l2 := kept hSw d2; have l3 := kept hSw d3; have l4 := kept hSw d4; have l5 := kept hSw d5); go_simp; try with_reducible rfl; done)) | (refine wpAnyH_take (i := 16) (v := undef) nth16 (by kernel_rfl) (by kernel_rfl) (by kernel_rfl) (fun _ _ _ h => h) (Or.inr ⟨by rfl, rfl⟩) hHeld ?_)
      (try simp only [Act.put]); (try simp only [List.setIfInBounds_toArray]); (try simp only [List.set_cons_succ]); (try simp only [List.set_cons_zero])
      first | (refine wpAnyH_take (i := 17) (v := ?_) nth17 (by kernel_rfl) (by kernel_rfl) (by kernel_rfl) (fun _ _ _ h => h) (Or.inl ⟨by rfl, ?_⟩) hHeld ?_; rotate_left; focus (intro wS hSw; (have k0 := kept hSw c0; have k1 := kept hSw c1; have k2 := kept hSw c2; have k3 := kept hSw c3; have k4 := kept hSw c4; have k5 := kept hSw c5; have l0 := kept hSw d0; have l1 := kept hSw d1; have l2 := kept hSw d2; have l3 := kept hSw d3; have l4 := kept hSw d4; have l5 := kept hSw d5); go_simp; try with_reducible rfl; done)) | (refine wpAnyH_take (i := 17) (v := undef) nth17 (by kernel_rfl) (by kernel_rfl) (by kernel_rfl) (fun _ _ _ h => h) (Or.inr ⟨by rfl, rfl⟩) hHeld ?_)
      (try simp only [Act.put]); (try simp only [List.setIfInBounds_toArray]); (try simp only [List.set_cons_succ]); (try simp only [List.set_cons_zero])
      first | (refine wpAnyH_take (i := 18) (v := ?_) nth18 (by kernel_rfl) (by kernel_rfl) (by kernel_rfl) (fun _ _ _ h => h) (Or.inl ⟨by rfl, ?_⟩) hHeld ?_; rotate_left; focus (intro wS hSw; (have k0 := kept hSw c0; have k1 := kept hSw c1; have k2 := kept hSw c2; have k3 := kept hSw c3; have k4 := kept hSw c4; have k5 := kept hSw c5; have l0 := kept hSw d0; have l1 := kept hSw d1; have l2 := kept hSw d2; have l3 := kept hSw d3; have l4 := kept hSw d4; have l5 := kept hSw d5); go_simp; try with_reducible rfl; done)) | (refine wpAnyH_take (i := 18) (v := undef) nth18 (by kernel_rfl) (by kernel_rfl) (by kernel_rfl) (fun _ _ _ h => h) (Or.inr ⟨by rfl, rfl⟩) hHeld ?_)
      (try simp only [Act.put]); (try simp only [List.setIfInBounds_toArray]); (try simp only [List.set_cons_succ]); (try simp only [List.set_cons_zero])
      first | (refine wpAnyH_take (i := 19) (v := ?_) nth19 (by kernel_rfl) (by kernel_rfl) (by kernel_rfl) (fun _ _ _ h => h) (Or.inl ⟨by rfl, ?_⟩) hHeld ?_; rotate_left; focus (intro wS hSw; (have k0 := kept hSw c0; have k1 := kept hSw c1; have k2 := kept hSw c2; have k3 := kept hSw c3; have k4 := kept hSw c4; have k5 := kept hSw c5; have l0 := kept hSw d0; have l1 := kept hSw d1; have l2 := kept hSw d2; have l3 := kept hSw d3; have l4 := kept hSw d4; have l5 := kept hSw d5); go_simp; try with_reducible rfl; done)) | (refine wpAnyH_take (i := 19) (v := undef) nth19 (by kernel_rfl) (by kernel_rfl) (by kernel_rfl) (fun _ _ _ h => h) (Or.inr ⟨by rfl, rfl⟩) hHeld ?_)
      (try simp only [Act.put]); (try simp only [List.setIfInBounds_toArray]); (try simp only [List.set_cons_succ]); (try simp only [List.set_cons_zero])
      first | (refine wpAnyH_take (i := 20) (v := ?_) nth20 (by kernel_rfl) (by kernel_rfl) (by kernel_rfl) (fun _ _ _ h => h) (Or.inl ⟨by rfl, ?_⟩) hHeld ?_; rotate_left; focus (intro wS hSw; (have k0 := kept hSw c0; have k1 := kept hSw c1; have k2 := kept hSw c2; have k3 := kept hSw c3; have k4 := kept hSw c4; have k5 := kept hSw c5; have l0 := kept hSw d0; have l1 := kept hSw d1; have l2 := kept hSw d2; have l3 := kept hSw d3; have l4 := kept hSw d4; have l5 := kept hSw d5); go_simp; try with_reducible rfl; done)) | (refine wpAnyH_take (i := 20) (v := undef) nth20 (by kernel_rfl) (by kernel_rfl) (by kernel_rfl) (fun _ _ _ h => h) (Or.inr ⟨by rfl, rfl⟩) hHeld ?_)
      (try simp only [Act.put]); (try simp only [List.setIfInBounds_toArray]); (try simp only [List.set_cons_succ]); (try simp only [List.set_cons_zero])
      first | (refine wpAnyH_take (i := 21) (v := ?_) nth21 (by kernel_rfl) (by kernel_rfl) (by kernel_rfl) (fun _ _ _ h => h) (Or.inl ⟨by rfl, ?_⟩) hHeld ?_; rotate_left; focus (intro wS hSw; (have k0 := kept hSw c0; have k1 := kept hSw c1; have k2 := kept hSw c2; have k3 := kept hSw c3; have k4 := kept hSw c4; have k5 := kept hSw c5; have l0 := kept hSw d0; have l1 := kept hSw d1; have l2 := kept hSw d2; have l3 := kept hSw d3; have l4 := kept hSw d4; have l5 := kept hSw d5); go_simp; try with_reducible rfl; done)) | (refine wpAnyH_take (i := 21) (v := undef) nth21 (by kernel_rfl) (by kernel_rfl) (by kernel_rfl) (fun _ _ _ h => h) (Or.inr ⟨by rfl, rfl⟩) hHeld ?_)
      (try simp only [Act.put]); (try simp only [List.setIfInBounds_toArray]); (try simp only [List.set_cons_succ]); (try simp only [List.set_cons_zero])
      first | (refine wpAnyH_take (i := 22) (v := ?_) nth22 (by kernel_rfl) (by kernel_rfl) (by kernel_rfl) (fun _ _ _ h => h) (Or.inl ⟨by rfl, ?_⟩) hHeld ?_; rotate_left; focus (intro wS hSw; (have k0 := kept hSw c0; have k1 := kept hSw c1; have k2 := kept hSw c2; have k3 := kept hSw c3; have k4 := kept hSw c4; have k5 := kept hSw c5; have l0 := kept hSw d0; have l1 := kept hSw d1; have l2 := kept hSw d2; have l3 := kept hSw d3; have l4 := kept hSw d4; have l5 := kept hSw d5); go_simp; try with_reducible rfl; done)) | (refine wpAnyH_take (i := 22) (v := undef) nth22 (by kernel_rfl) (by kernel_rfl) (by kernel_rfl) (fun _ _ _ h => h) (Or.inr ⟨by rfl, rfl⟩) hHeld ?_)
      (try simp only [Act.put]); (try simp only [List.setIfInBounds_toArray]); (try simp only [List.set_cons_succ]); (try simp only [List.set_cons_zero])
      first | (refine wpAnyH_take (i := 23) (v := ?_) nth23 (by kernel_rfl) (by kernel_rfl) (by kernel_rfl) (fun _ _ _ h => h) (Or.inl ⟨by rfl, ?_⟩) hHeld ?_; rotate_left; focus (intro wS hSw; (have k0 := kept hSw c0; have k1 := kept hSw c1; have k2 := kept hSw c2; have k3 := kept hSw c3; have k4 := kept hSw c4; have k5 := kept hSw c5; have l0 := kept hSw d0; have l1 := kept hSw d1; have l2 := kept hSw d2; have l3 := kept hSw d3; have l4 := kept hSw d4; have l5 := kept hSw d5); go_simp; try with_reducible rfl; done)) | (refine wpAnyH_take (i := 23) (v := undef) nth23 (by kernel_rfl) (by kernel_rfl) (by kernel_rfl) (fun _ _ _ h => h) (Or.inr ⟨by rfl, rfl⟩) hHeld ?_)
      (try simp only [Act.put]); (try simp only [List.setIfInBounds_toArray]); (try simp only [List.set_cons_succ]); (try simp only [List.set_cons_zero])
      first | (refine wpAnyH_take (i := 24) (v := ?_) nth24 (by kernel_rfl) (by kernel_rfl) (by kernel_rfl) (fun _ _ _ h => h) (Or.inl ⟨by rfl, ?_⟩) hHeld ?_; rotate_left; focus (intro wS hSw; (have k0 := kept hSw c0; have k1 := kept hSw c1; have k2 := kept hSw c2; have k3 := kept hSw c3; have k4 := kept hSw c4; have k5 := kept hSw c5; have l0 := kept hSw d0; have l1 := kept hSw d1; have l2 := kept hSw d2; have l3 := kept hSw d3; have l4 := kept hSw d4; have l5 := kept hSw d5); go_simp; try with_reducible rfl; done)) | (refine wpAnyH_take (i := 24) (v := undef) nth24 (by kernel_rfl) (by kernel_rfl) (by kernel_rfl) (fun _ _ _ h => h) (Or.inr ⟨by rfl, rfl⟩) hHeld ?_)
      (try simp only [Act.put]); (try simp only [List.setIfInBounds_toArray]); (try simp only [List.set_cons_succ]); (try simp only [List.set_cons_zero])
      refine wpAnyH_done (by kernel_rfl) ?_ _
      have HB2 := hide (HB.out.trans (hHeld.mono HB.out.size))
      clear hHeld c0 c1 c2 c3 c4 c5 d0 d1 d2 d3 d4 d5 QS
      go_wp2_with fail
      go_roundw
      case rel => exact ⟨k + 1, by omega, by go_num, HB2⟩
      case measure => simp [intOf]; omega
    · go_wp2_with fail
      go_ret
      exact ⟨rfl, HB.out⟩
end Go.Proofs.Ytebamnlknaoehaa
