/- The walk of sorter.both. -/
import Derived.Test.YtahdkfenpflahaaSoE
import Derived.Deep.Cut
namespace Go.Proofs.Ytahdkfenpflahaa
set_option linter.unusedVariables false
open Go.ChangeShapes Go.WideShapes Go.ChangeAt Go.RowKit

theorem step_app {P : Program} {ops : Array Oper} {o : Oper} {a : Act} {w : World} {K : Act → World → Prop} {Q : Exit → Act → World → Prop} {E : Prop} (hgd : o.guard = none) (s x : Operand) (t : TypeId)
    (ho : o.op = .call { callee := .builtin .append, args := #[s, x], argTypes := #[t, t] })
    (base : Nat) (e : TypeId) (i : TypeInfo) (z : Value) (size bytes : Nat) (ht : P.underlying t = some (.slice e)) (hi : P.info? e = some i) (hz : i.zero = some z)
    (hsize : i.size = size) (hby : i.bytes = bytes) (hzs : z.cells.size = size) (hsz : 0 < size)
    (v : Value) (n : Nat) (xs : List Value) (hs : a.eval s = v) (hown : w.ownsRow base e size v n xs)
    (B : Nat) (A : Option Addr) (m c : Nat) (news : List Value) (hx : a.eval x = .slice A m c) (hl : news.length = m * size) (hr : Cells w B A news) (h1 : ∀ u ∈ news, u.oneCell' = true)
    (h63 : n + m ≤ maxLen) (hbytes : (n + m) * bytes ≤ 140737488355328) (hbase : base ≤ w.heap.size) (hnil : A = none → m = 0)
    (h : ∀ v' w', w'.ownsRow base e size v' (n + m) (xs ++ news) → w.grownBy w' v.ownBlock → (v'.ownBlock = v.ownBlock ∨ v'.ownBlock = some w.heap.size) → K (a.put o.dst v') w') :
    if Region.wanted o (yielded ops a.tmps) = true then Oper.wp P o a w K Q else E := by
  have hw : Region.wanted o (yielded ops a.tmps) = true := by simp [Region.wanted, hgd]
  rw [if_pos hw]
  obtain ⟨v', w', hrun, h2, h3, h4⟩ := run_app (P := P) w base t o.type e i z size bytes ht hi hz hsize hby hzs hsz v n xs hown B A m c news hl hr h1 h63 hbytes hbase hnil
  unfold Oper.wp execOp
  simp only [ho, resolve, invoke, builtin, Sem.run_bind, Sem.run_pure, Result.andThen_ok, List.map_toArray, List.map_cons, List.map_nil, hs, hx, hrun]
  exact h v' w' h2 h3 h4
theorem OwnH.blk {base : Nat} {w : World} {v : Value} {os : List HRow} (h : OwnH base w v os) : ∀ k, v.ownBlock = some k → base ≤ k := by
  intro k hk
  rcases h.2 with ⟨hv, _⟩ | ⟨b, cap, cur, rfl, h1, _⟩
  · subst hv
    cases hk
  · injection hk with hk
    subst hk
    exact h1
theorem OwnH.hs {base : Nat} {w0 w : World} {v : Value} {os : List HRow} (h : OwnH base w v os) (hb : Below w0.heap.size w0 w) (hr : ∀ p ∈ os, RowAt w0 w0.heap.size p.1.A p.1.n p.1.c p.2) : ∃ A c, v = .slice A os.length c ∧ HsAt w A os.length c os := by
  obtain ⟨A, c, e, hs⟩ := sl_of_own (l := os) (f := hdC) (by rw [hdC_flat]; exact h) (fun _ => rfl)
  exact ⟨A, c, e, hs, fun p hp => (hr p hp).kept hb⟩
set_option maxRecDepth 100000 in
set_option maxHeartbeats 2000000 in
theorem both_c (A A2 A3 : Option Addr) (n c n2 c2 n3 c3 gk : Nat) (ps qs : List HRow) (ks : List (Int × Bool)) (w : World) (h : HsAt w A n c ps) (h2 : HsAt w A2 n2 c2 qs) (hg : ByBox w gk A3 n3 c3) (hk : KeysAt w w.heap.size A3 n3 c3 ks) (hNN : n + n2 ≤ 1048576) :
    Calls Try.prog 41 #[.slice A n c, .slice A2 n2 c2, .func (.func 42) #[] #[.pointer (some ⟨gk, 0, none⟩)]] w fun e w' => ∃ A4 c4, e = .returned (.slice A4 (n + n2) c4) ∧ HsAt w' A4 (n + n2) c4 (mergeL (ltK ks) ps qs) ∧ Below w.heap.size w w' := by
  obtain ⟨i0, hi0, hz0, hz1, hz2⟩ := info_parts row_info
  obtain ⟨N, hN⟩ : ∃ N, n + n2 = N := ⟨_, rfl⟩
  rw [hN] at hNN ⊢
  have hwN : IntKind.i64.wrap ((n : Int) + (n2 : Int)) = (N : Int) := by rw [IntWalk.i64_in _ (by omega)]; omega
  have HMR : Hid (∀ p ∈ mergeL (ltK ks) ps qs, RowAt w w.heap.size p.1.A p.1.n p.1.c p.2) := fun p hp => (merge_mem hp).elim (h.each p) (h2.each p)
  have HML : Hid ((mergeL (ltK ks) ps qs).length = N) := by show _ = _; rw [mergeL_len, h.sl.len, h2.sl.len]; exact hN
  have QB := hide (fun (p q : HRow) (W : World) (hW : Below w.heap.size w W) (hp : RowAt w w.heap.size p.1.A p.1.n p.1.c p.2) (hq : RowAt w w.heap.size q.1.A q.1.n q.1.c q.2) => by1_c gk p.1.A q.1.A A3 p.1.n p.1.c q.1.n q.1.c n3 c3 p.2 q.2 ks W (hp.kept hW) (hq.kept hW) (hg.kept hW) (hk.kept hW))
  have H1 := hide h
  have H2 := hide h2
  have HE : Hid ([] ++ mergeL (ltK ks) ps qs = mergeL (ltK ks) ps qs) := rfl
  obtain ⟨M, hM⟩ : ∃ M, mergeL (ltK ks) ps qs = M := ⟨_, rfl⟩
  have HM := hide hM
  rw [hM] at HMR HML ⊢
  clear h h2 hg hk hM
  replace hN := hide hN
  go_enter Try.func41, Try.ntmps41
  go_upto_region 2 with (at_make; refine wpList_make_own _ rfl (.const (.int .i64 0)) (.tmp 14) 29 rfl w.heap.size 23 i0 _ 1 Try.underlying29 hi0 hz0 hz1 .i64 .i64 N N rfl rfl rfl (by rw [hz2]; omega) (by unfold maxLen; omega) (Nat.le_refl _) ?_; intro w1 hown1 hgr1; have HO := hide (show OwnH w.heap.size w1 (.slice (some ⟨w.heap.size, 0, none⟩) 0 N) [] from hown1); have HB := hide (own_grown (Below.refl w.heap.size w) hgr1 (by intro k hk; cases hk)); clear hown1 hgr1)
  have hwg1 : w.heap.size ≤ w1.heap.size := HB.out.size
  go_upto_region 3 with (fail)
  have X1 := hide ((show QBox (w1.alloc (.cells #[.slice A n c] 63)) w1.heap.size A n c from heap_alloc_new w1 _).kept (Bel.one (w1.alloc (.cells #[.slice A n c] 63)) (.cells #[.slice A2 n2 c2] 63)))
  have X2 := hide (show QBox ((w1.alloc (.cells #[.slice A n c] 63)).alloc (.cells #[.slice A2 n2 c2] 63)) (w1.heap.size + 1) A2 n2 c2 from by have := heap_alloc_new (w1.alloc (.cells #[.slice A n c] 63)) (.cells #[.slice A2 n2 c2] 63); rwa [World.size_alloc] at this)
  replace HO := hide ((HO.out.kept (Bel.one w1 (.cells #[.slice A n c] 63))).kept (Bel.one (w1.alloc (.cells #[.slice A n c] 63)) (.cells #[.slice A2 n2 c2] 63)))
  replace HB := hide (Bel.alloc (Bel.alloc HB.out (.cells #[.slice A n c] 63)) (.cells #[.slice A2 n2 c2] 63))
  have hne : w1.heap.size ≠ w1.heap.size + 1 := by omega
  have hwg2 : w.heap.size ≤ w1.heap.size + 1 := by omega
  generalize (w1.alloc (.cells #[.slice A n c] 63)).alloc (.cells #[.slice A2 n2 c2] 63) = w2 at *
  generalize w1.heap.size + 1 = g2 at *
  generalize w1.heap.size = g1 at *
  go_wp2_with fail
  go_loopw [7] (fun v wr => ∃ (os ls rs : List HRow) (B1 B2 : Option Addr) (m1 d1 m2 d2 : Nat), Hid (OwnH w.heap.size wr v os) ∧ Hid (QBox wr g1 B1 m1 d1) ∧ Hid (QBox wr g2 B2 m2 d2) ∧ Hid (HsAt w B1 m1 d1 ls) ∧ Hid (HsAt w B2 m2 d2 rs) ∧ Hid (Below w.heap.size w wr) ∧ Hid (os ++ mergeL (ltK ks) ls rs = M)) (fun v _ => N - lenV v)
  case atStart => exact ⟨[], ps, qs, A, A2, n, c, n2, c2, HO, X1, X2, H1, H2, HB, HM⟩
  case round =>
    clear HO X1 X2 H1 H2 HB HM HE
    obtain ⟨os, ls, rs, B1, B2, m1, d1, m2, d2, HO, X1, X2, H1, H2, HB, HE⟩ := hrel
    have hlv := hide (OwnH.len HO.out)
    have hlen : os.length + m1 + m2 = N := by
      have h1 := HML.out
      rw [← HE.out, List.length_append, mergeL_len, H1.out.sl.len, H2.out.sl.len] at h1
      omega
    have Q1 := hide (fun W hW => empty_c g1 m1 d1 B1 W hW (by omega))
    have Q2 := hide (fun W hW => empty_c g2 m2 d2 B2 W hW (by omega))
    cases ls with
    | nil =>
      have hm1 : m1 = 0 := H1.out.sl.len.symm
      rw [show decide (m1 = 0) = true from decide_eq_true hm1] at Q1
      have HE2 : Hid ((os ++ []) ++ rs = M) := by show _ = _; rw [List.append_nil, ← HE.out, mergeL]
      go_wp2_with fail
      refine (Q1.out _ X1.out).mono ?_
      rintro e w' ⟨rfl, rfl⟩
      go_upto_region 7 with (fail)
      generalize hls : ([] : List HRow) = ls at *
      clear hls
      clear hm1 hlv Q1 Q2
      refine wp_region_held_drew (S := fun w' => QBox w' g1 B1 m1 d1 ∧ QBox w' g2 B2 m2 d2 ∧ Below w.heap.size w w') (by kernel_rfl) ⟨X1.out.kept (Below.refl _ _).drew, X2.out.kept (Below.refl _ _).drew, HB.out.drew⟩ (fun hHeld => ?_)
      have HO2 := hide (HO.out.kept (Below.refl _ _).drew)
      clear HO X1 X2 HB
      first | (refine wpAnyH_take (i := 0) (v := ?_) nth0 (by kernel_rfl) (by kernel_rfl) (by kernel_rfl) (fun _ _ _ h => h) (Or.inl ⟨by rfl, ?_⟩) hHeld ?_; rotate_left; focus (intro wS hSw; obtain ⟨x_0, x_1⟩ := hSw.1.cells; obtain ⟨y_0, y_1⟩ := hSw.2.1.cells; go_simp; try with_reducible rfl; done)) | fail
      (try simp only [Act.put]); (try simp only [List.setIfInBounds_toArray]); (try simp only [List.set_cons_succ]); (try simp only [List.set_cons_zero])
      first | (refine wpAnyH_take (i := 1) (v := ?_) nth1 (by kernel_rfl) (by kernel_rfl) (by kernel_rfl) (fun _ _ _ h => h) (Or.inl ⟨by rfl, ?_⟩) hHeld ?_; rotate_left; focus (intro wS hSw; obtain ⟨x_0, x_1⟩ := hSw.1.cells; obtain ⟨y_0, y_1⟩ := hSw.2.1.cells; go_simp; try with_reducible rfl; done)) | fail
      (try simp only [Act.put]); (try simp only [List.setIfInBounds_toArray]); (try simp only [List.set_cons_succ]); (try simp only [List.set_cons_zero])
      first | (refine wpAnyH_take (i := 2) (v := ?_) nth2 (by kernel_rfl) (by kernel_rfl) (by kernel_rfl) (fun _ _ _ h => h) (Or.inl ⟨by rfl, ?_⟩) hHeld ?_; rotate_left; focus (intro wS hSw; obtain ⟨x_0, x_1⟩ := hSw.1.cells; obtain ⟨y_0, y_1⟩ := hSw.2.1.cells; go_simp; try with_reducible rfl; done)) | fail
      (try simp only [Act.put]); (try simp only [List.setIfInBounds_toArray]); (try simp only [List.set_cons_succ]); (try simp only [List.set_cons_zero])
      first | (refine wpAnyH_take (i := 3) (v := ?_) nth3 (by kernel_rfl) (by kernel_rfl) (by kernel_rfl) (fun _ _ _ h => h) (Or.inl ⟨by rfl, ?_⟩) hHeld ?_; rotate_left; focus (intro wS hSw; obtain ⟨x_0, x_1⟩ := hSw.1.cells; obtain ⟨y_0, y_1⟩ := hSw.2.1.cells; go_simp; try with_reducible rfl; done)) | fail
      (try simp only [Act.put]); (try simp only [List.setIfInBounds_toArray]); (try simp only [List.set_cons_succ]); (try simp only [List.set_cons_zero])
      first | (refine wpAnyH_take (i := 4) (v := ?_) nth4 (by kernel_rfl) (by kernel_rfl) (by kernel_rfl) (fun _ _ _ h => h) (Or.inl ⟨by rfl, ?_⟩) hHeld ?_; rotate_left; focus (intro wS hSw; obtain ⟨x_0, x_1⟩ := hSw.1.cells; obtain ⟨y_0, y_1⟩ := hSw.2.1.cells; go_simp; try with_reducible rfl; done)) | fail
      (try simp only [Act.put]); (try simp only [List.setIfInBounds_toArray]); (try simp only [List.set_cons_succ]); (try simp only [List.set_cons_zero])
      first | (refine wpAnyH_take (i := 6) (v := ?_) nth6 (by kernel_rfl) (by kernel_rfl) (by kernel_rfl) (fun _ _ _ h => h) (Or.inl ⟨by rfl, ?_⟩) hHeld ?_; rotate_left; focus (intro wS hSw; obtain ⟨x_0, x_1⟩ := hSw.1.cells; obtain ⟨y_0, y_1⟩ := hSw.2.1.cells; go_simp; try with_reducible rfl; done)) | fail
      (try simp only [Act.put]); (try simp only [List.setIfInBounds_toArray]); (try simp only [List.set_cons_succ]); (try simp only [List.set_cons_zero])
      first | (refine wpAnyH_take (i := 7) (v := ?_) nth7 (by kernel_rfl) (by kernel_rfl) (by kernel_rfl) (fun _ _ _ h => h) (Or.inl ⟨by rfl, ?_⟩) hHeld ?_; rotate_left; focus (intro wS hSw; obtain ⟨x_0, x_1⟩ := hSw.1.cells; obtain ⟨y_0, y_1⟩ := hSw.2.1.cells; go_simp; try with_reducible rfl; done)) | fail
      (try simp only [Act.put]); (try simp only [List.setIfInBounds_toArray]); (try simp only [List.set_cons_succ]); (try simp only [List.set_cons_zero])
      first | (refine wpAnyH_take (i := 8) (v := ?_) nth8 (by kernel_rfl) (by kernel_rfl) (by kernel_rfl) (fun _ _ _ h => h) (Or.inl ⟨by rfl, ?_⟩) hHeld ?_; rotate_left; focus (intro wS hSw; obtain ⟨x_0, x_1⟩ := hSw.1.cells; obtain ⟨y_0, y_1⟩ := hSw.2.1.cells; go_simp; try with_reducible rfl; done)) | fail
      (try simp only [Act.put]); (try simp only [List.setIfInBounds_toArray]); (try simp only [List.set_cons_succ]); (try simp only [List.set_cons_zero])
      first | (refine wpAnyH_take (i := 9) (v := ?_) nth9 (by kernel_rfl) (by kernel_rfl) (by kernel_rfl) (fun _ _ _ h => h) (Or.inl ⟨by rfl, ?_⟩) hHeld ?_; rotate_left; focus (intro wS hSw; obtain ⟨x_0, x_1⟩ := hSw.1.cells; obtain ⟨y_0, y_1⟩ := hSw.2.1.cells; go_simp; try with_reducible rfl; done)) | fail
      (try simp only [Act.put]); (try simp only [List.setIfInBounds_toArray]); (try simp only [List.set_cons_succ]); (try simp only [List.set_cons_zero])
      refine wpAnyH_ready (rs := [5]) (by kernel_rfl) (by simp) ?_
      refine AllReadyH.cons nth5 (fun K hK => ?_) AllReadyH.nil
      refine step_app rfl (.tmp 46) (.tmp 50) 29 rfl w.heap.size 23 i0 _ 1 24 Try.underlying29 hi0 hz0 hz1 hz2 rfl (by omega) u7 os.length (os.map hdV) rfl HO2.out _ B1 m1 d1 (ls.map hdV) rfl (by rw [List.length_map, H1.out.sl.len, Nat.mul_one]) (by have := (H1.out.kept hHeld.2.2).sl.recs.2; rw [hdC_flat] at this; exact this) (hd_one _) (by unfold maxLen;  omega) (by  omega) hHeld.2.2.size H1.out.sl.nil ?_
      intro v1 w1 hown hgr _
      have HO3 := hide (show OwnH w.heap.size w1 v1 (os ++ ls) from by have := hown; rw [← H1.out.sl.len, ← List.length_append, ← List.map_append] at this; exact this)
      have hs1 := hHeld.1.grown hgr (HO2.out.ne hHeld.1)
      have hs2 := hHeld.2.1.grown hgr (HO2.out.ne hHeld.2.1)
      have hs3 := own_grown hHeld.2.2 hgr HO2.out.blk
      clear hHeld hown hgr HO2
      refine hK.out _ _ ⟨hs1, hs2, hs3⟩ (fun hHeld => ?_)
      clear hK K hs1 hs2 hs3
      (try simp only [Act.put]); (try simp only [List.setIfInBounds_toArray]); (try simp only [List.set_cons_succ]); (try simp only [List.set_cons_zero])
      refine wpAnyH_ready (rs := [10]) (by kernel_rfl) (by simp) ?_
      refine AllReadyH.cons nth10 (fun K hK => ?_) AllReadyH.nil
      refine step_app rfl (.tmp 51) (.tmp 55) 29 rfl w.heap.size 23 i0 _ 1 24 Try.underlying29 hi0 hz0 hz1 hz2 rfl (by omega) v1 (os ++ ls).length ((os ++ ls).map hdV) rfl HO3.out _ B2 m2 d2 (rs.map hdV) rfl (by rw [List.length_map, H2.out.sl.len, Nat.mul_one]) (by have := (H2.out.kept hHeld.2.2).sl.recs.2; rw [hdC_flat] at this; exact this) (hd_one _) (by unfold maxLen; have q1 := H1.out.sl.len; rw [List.length_append]; omega) (by have q1 := H1.out.sl.len; rw [List.length_append]; omega) hHeld.2.2.size H2.out.sl.nil ?_
      intro v2 w2 hown hgr _
      have HO4 : OwnH w.heap.size w2 v2 ((os ++ ls) ++ rs) := by have := hown; rw [← H2.out.sl.len, ← List.length_append, ← List.map_append] at this; exact this
      have hs1 := hHeld.1.grown hgr (HO3.out.ne hHeld.1)
      have hs2 := hHeld.2.1.grown hgr (HO3.out.ne hHeld.2.1)
      have hs3 := own_grown hHeld.2.2 hgr HO3.out.blk
      clear hHeld hown hgr HO3
      rw [HE2.out] at HO4
      obtain ⟨A9, c9, rfl, h9⟩ := HO4.hs hs3 HMR.out
      rw [HML.out] at h9 ⊢
      have H9 := hide h9
      clear h9 HO4
      refine hK.out _ _ ⟨hs1, hs2, hs3⟩ (fun hHeld => ?_)
      clear hK K hs1 hs2 hs3
      (try simp only [Act.put]); (try simp only [List.setIfInBounds_toArray]); (try simp only [List.set_cons_succ]); (try simp only [List.set_cons_zero])
      first | (refine wpAnyH_take (i := 11) (v := ?_) nth11 (by kernel_rfl) (by kernel_rfl) (by kernel_rfl) (fun _ _ _ h => h) (Or.inl ⟨by rfl, ?_⟩) hHeld ?_; rotate_left; focus (intro wS hSw; go_simp; try with_reducible rfl; done)) | fail
      (try simp only [Act.put]); (try simp only [List.setIfInBounds_toArray]); (try simp only [List.set_cons_succ]); (try simp only [List.set_cons_zero])
      refine wpAnyH_done (by kernel_rfl) ?_ _
      go_wp2_with fail
      go_ret
      exact ⟨A9, c9, rfl, H9.out, hHeld.2.2⟩
    | cons a l =>
      have hm1 : 1 ≤ m1 := by have := H1.out.sl.len; simp at this; omega
      rw [show decide (m1 = 0) = false from decide_eq_false (by omega)] at Q1
      cases rs with
      | nil =>
        have hm2 : m2 = 0 := H2.out.sl.len.symm
        rw [show decide (m2 = 0) = true from decide_eq_true hm2] at Q2
        have HE2 : Hid ((os ++ (a :: l)) ++ [] = M) := by show _ = _; rw [List.append_nil, ← HE.out, mergeL_nil]
        go_wp2_with fail
        refine (Q1.out _ X1.out).mono ?_
        rintro e w' ⟨rfl, rfl⟩
        go_wp2_with fail
        refine (Q2.out _ X2.out).mono ?_
        rintro e w' ⟨rfl, rfl⟩
        go_upto_region 7 with (fail)
        generalize hls : a :: l = ls at *
        generalize hrs : ([] : List HRow) = rs at *
        clear hls hrs
        clear hm1 hm2 hlv Q1 Q2
        refine wp_region_held_drew (S := fun w' => QBox w' g1 B1 m1 d1 ∧ QBox w' g2 B2 m2 d2 ∧ Below w.heap.size w w') (by kernel_rfl) ⟨X1.out.kept (Below.refl _ _).drew, X2.out.kept (Below.refl _ _).drew, HB.out.drew⟩ (fun hHeld => ?_)
        have HO2 := hide (HO.out.kept (Below.refl _ _).drew)
        clear HO X1 X2 HB
        first | (refine wpAnyH_take (i := 0) (v := ?_) nth0 (by kernel_rfl) (by kernel_rfl) (by kernel_rfl) (fun _ _ _ h => h) (Or.inl ⟨by rfl, ?_⟩) hHeld ?_; rotate_left; focus (intro wS hSw; obtain ⟨x_0, x_1⟩ := hSw.1.cells; obtain ⟨y_0, y_1⟩ := hSw.2.1.cells; go_simp; try with_reducible rfl; done)) | fail
        (try simp only [Act.put]); (try simp only [List.setIfInBounds_toArray]); (try simp only [List.set_cons_succ]); (try simp only [List.set_cons_zero])
        first | (refine wpAnyH_take (i := 1) (v := ?_) nth1 (by kernel_rfl) (by kernel_rfl) (by kernel_rfl) (fun _ _ _ h => h) (Or.inl ⟨by rfl, ?_⟩) hHeld ?_; rotate_left; focus (intro wS hSw; obtain ⟨x_0, x_1⟩ := hSw.1.cells; obtain ⟨y_0, y_1⟩ := hSw.2.1.cells; go_simp; try with_reducible rfl; done)) | fail
        (try simp only [Act.put]); (try simp only [List.setIfInBounds_toArray]); (try simp only [List.set_cons_succ]); (try simp only [List.set_cons_zero])
        first | (refine wpAnyH_take (i := 2) (v := ?_) nth2 (by kernel_rfl) (by kernel_rfl) (by kernel_rfl) (fun _ _ _ h => h) (Or.inl ⟨by rfl, ?_⟩) hHeld ?_; rotate_left; focus (intro wS hSw; obtain ⟨x_0, x_1⟩ := hSw.1.cells; obtain ⟨y_0, y_1⟩ := hSw.2.1.cells; go_simp; try with_reducible rfl; done)) | fail
        (try simp only [Act.put]); (try simp only [List.setIfInBounds_toArray]); (try simp only [List.set_cons_succ]); (try simp only [List.set_cons_zero])
        first | (refine wpAnyH_take (i := 3) (v := ?_) nth3 (by kernel_rfl) (by kernel_rfl) (by kernel_rfl) (fun _ _ _ h => h) (Or.inl ⟨by rfl, ?_⟩) hHeld ?_; rotate_left; focus (intro wS hSw; obtain ⟨x_0, x_1⟩ := hSw.1.cells; obtain ⟨y_0, y_1⟩ := hSw.2.1.cells; go_simp; try with_reducible rfl; done)) | fail
        (try simp only [Act.put]); (try simp only [List.setIfInBounds_toArray]); (try simp only [List.set_cons_succ]); (try simp only [List.set_cons_zero])
        first | (refine wpAnyH_take (i := 4) (v := ?_) nth4 (by kernel_rfl) (by kernel_rfl) (by kernel_rfl) (fun _ _ _ h => h) (Or.inl ⟨by rfl, ?_⟩) hHeld ?_; rotate_left; focus (intro wS hSw; obtain ⟨x_0, x_1⟩ := hSw.1.cells; obtain ⟨y_0, y_1⟩ := hSw.2.1.cells; go_simp; try with_reducible rfl; done)) | fail
        (try simp only [Act.put]); (try simp only [List.setIfInBounds_toArray]); (try simp only [List.set_cons_succ]); (try simp only [List.set_cons_zero])
        first | (refine wpAnyH_take (i := 6) (v := ?_) nth6 (by kernel_rfl) (by kernel_rfl) (by kernel_rfl) (fun _ _ _ h => h) (Or.inl ⟨by rfl, ?_⟩) hHeld ?_; rotate_left; focus (intro wS hSw; obtain ⟨x_0, x_1⟩ := hSw.1.cells; obtain ⟨y_0, y_1⟩ := hSw.2.1.cells; go_simp; try with_reducible rfl; done)) | fail
        (try simp only [Act.put]); (try simp only [List.setIfInBounds_toArray]); (try simp only [List.set_cons_succ]); (try simp only [List.set_cons_zero])
        first | (refine wpAnyH_take (i := 7) (v := ?_) nth7 (by kernel_rfl) (by kernel_rfl) (by kernel_rfl) (fun _ _ _ h => h) (Or.inl ⟨by rfl, ?_⟩) hHeld ?_; rotate_left; focus (intro wS hSw; obtain ⟨x_0, x_1⟩ := hSw.1.cells; obtain ⟨y_0, y_1⟩ := hSw.2.1.cells; go_simp; try with_reducible rfl; done)) | fail
        (try simp only [Act.put]); (try simp only [List.setIfInBounds_toArray]); (try simp only [List.set_cons_succ]); (try simp only [List.set_cons_zero])
        first | (refine wpAnyH_take (i := 8) (v := ?_) nth8 (by kernel_rfl) (by kernel_rfl) (by kernel_rfl) (fun _ _ _ h => h) (Or.inl ⟨by rfl, ?_⟩) hHeld ?_; rotate_left; focus (intro wS hSw; obtain ⟨x_0, x_1⟩ := hSw.1.cells; obtain ⟨y_0, y_1⟩ := hSw.2.1.cells; go_simp; try with_reducible rfl; done)) | fail
        (try simp only [Act.put]); (try simp only [List.setIfInBounds_toArray]); (try simp only [List.set_cons_succ]); (try simp only [List.set_cons_zero])
        first | (refine wpAnyH_take (i := 9) (v := ?_) nth9 (by kernel_rfl) (by kernel_rfl) (by kernel_rfl) (fun _ _ _ h => h) (Or.inl ⟨by rfl, ?_⟩) hHeld ?_; rotate_left; focus (intro wS hSw; obtain ⟨x_0, x_1⟩ := hSw.1.cells; obtain ⟨y_0, y_1⟩ := hSw.2.1.cells; go_simp; try with_reducible rfl; done)) | fail
        (try simp only [Act.put]); (try simp only [List.setIfInBounds_toArray]); (try simp only [List.set_cons_succ]); (try simp only [List.set_cons_zero])
        refine wpAnyH_ready (rs := [5]) (by kernel_rfl) (by simp) ?_
        refine AllReadyH.cons nth5 (fun K hK => ?_) AllReadyH.nil
        refine step_app rfl (.tmp 46) (.tmp 50) 29 rfl w.heap.size 23 i0 _ 1 24 Try.underlying29 hi0 hz0 hz1 hz2 rfl (by omega) u7 os.length (os.map hdV) rfl HO2.out _ B1 m1 d1 (ls.map hdV) rfl (by rw [List.length_map, H1.out.sl.len, Nat.mul_one]) (by have := (H1.out.kept hHeld.2.2).sl.recs.2; rw [hdC_flat] at this; exact this) (hd_one _) (by unfold maxLen;  omega) (by  omega) hHeld.2.2.size H1.out.sl.nil ?_
        intro v1 w1 hown hgr _
        have HO3 := hide (show OwnH w.heap.size w1 v1 (os ++ ls) from by have := hown; rw [← H1.out.sl.len, ← List.length_append, ← List.map_append] at this; exact this)
        have hs1 := hHeld.1.grown hgr (HO2.out.ne hHeld.1)
        have hs2 := hHeld.2.1.grown hgr (HO2.out.ne hHeld.2.1)
        have hs3 := own_grown hHeld.2.2 hgr HO2.out.blk
        clear hHeld hown hgr HO2
        refine hK.out _ _ ⟨hs1, hs2, hs3⟩ (fun hHeld => ?_)
        clear hK K hs1 hs2 hs3
        (try simp only [Act.put]); (try simp only [List.setIfInBounds_toArray]); (try simp only [List.set_cons_succ]); (try simp only [List.set_cons_zero])
        refine wpAnyH_ready (rs := [10]) (by kernel_rfl) (by simp) ?_
        refine AllReadyH.cons nth10 (fun K hK => ?_) AllReadyH.nil
        refine step_app rfl (.tmp 51) (.tmp 55) 29 rfl w.heap.size 23 i0 _ 1 24 Try.underlying29 hi0 hz0 hz1 hz2 rfl (by omega) v1 (os ++ ls).length ((os ++ ls).map hdV) rfl HO3.out _ B2 m2 d2 (rs.map hdV) rfl (by rw [List.length_map, H2.out.sl.len, Nat.mul_one]) (by have := (H2.out.kept hHeld.2.2).sl.recs.2; rw [hdC_flat] at this; exact this) (hd_one _) (by unfold maxLen; have q1 := H1.out.sl.len; rw [List.length_append]; omega) (by have q1 := H1.out.sl.len; rw [List.length_append]; omega) hHeld.2.2.size H2.out.sl.nil ?_
        intro v2 w2 hown hgr _
        have HO4 : OwnH w.heap.size w2 v2 ((os ++ ls) ++ rs) := by have := hown; rw [← H2.out.sl.len, ← List.length_append, ← List.map_append] at this; exact this
        have hs1 := hHeld.1.grown hgr (HO3.out.ne hHeld.1)
        have hs2 := hHeld.2.1.grown hgr (HO3.out.ne hHeld.2.1)
        have hs3 := own_grown hHeld.2.2 hgr HO3.out.blk
        clear hHeld hown hgr HO3
        rw [HE2.out] at HO4
        obtain ⟨A9, c9, rfl, h9⟩ := HO4.hs hs3 HMR.out
        rw [HML.out] at h9 ⊢
        have H9 := hide h9
        clear h9 HO4
        refine hK.out _ _ ⟨hs1, hs2, hs3⟩ (fun hHeld => ?_)
        clear hK K hs1 hs2 hs3
        (try simp only [Act.put]); (try simp only [List.setIfInBounds_toArray]); (try simp only [List.set_cons_succ]); (try simp only [List.set_cons_zero])
        first | (refine wpAnyH_take (i := 11) (v := ?_) nth11 (by kernel_rfl) (by kernel_rfl) (by kernel_rfl) (fun _ _ _ h => h) (Or.inl ⟨by rfl, ?_⟩) hHeld ?_; rotate_left; focus (intro wS hSw; go_simp; try with_reducible rfl; done)) | fail
        (try simp only [Act.put]); (try simp only [List.setIfInBounds_toArray]); (try simp only [List.set_cons_succ]); (try simp only [List.set_cons_zero])
        refine wpAnyH_done (by kernel_rfl) ?_ _
        go_wp2_with fail
        go_ret
        exact ⟨A9, c9, rfl, H9.out, hHeld.2.2⟩
      | cons b r =>
        have hm2 : 1 ≤ m2 := by have := H2.out.sl.len; simp at this; omega
        rw [show decide (m2 = 0) = false from decide_eq_false (by omega)] at Q2
        have QF1 := hide (fun W hW hs => first_c g1 m1 d1 B1 (a :: l) W hW hs a rfl)
        have QF2 := hide (fun W hW hs => first_c g2 m2 d2 B2 (b :: r) W hW hs b rfl)
        have QTl := hide (fun W hW hs => take_c g1 m1 d1 B1 (a :: l) W hW hs a rfl)
        have QTr := hide (fun W hW hs => take_c g2 m2 d2 B2 (b :: r) W hW hs b rfl)
        have QC := hide (fun W hW => QB.out b a W hW (H2.out.each b (by simp)) (H1.out.each a (by simp)))
        unfold hdV at QF1 QF2 QTl QTr
        have hlt : befB b.2 a.2 ks = ltK ks b a := rfl
        rw [hlt] at QC
        clear hlt
        cases hx : ltK ks b a with
        | true =>
          have HE2 : Hid ((os ++ [b]) ++ mergeL (ltK ks) (a :: l) r = M) := by show _ = _; rw [← HE.out, mergeL_right hx, List.append_assoc]; rfl
          rw [hx] at QC
          clear hx HE
          go_wp2_with fail
          refine (Q1.out _ X1.out).mono ?_
          rintro e w' ⟨rfl, rfl⟩
          go_wp2_with fail
          refine (Q2.out _ X2.out).mono ?_
          rintro e w' ⟨rfl, rfl⟩
          go_wp2_with fail
          refine (QF2.out _ X2.out (H2.out.kept HB.out)).mono ?_
          rintro e w' ⟨rfl, rfl⟩
          go_wp2_with fail
          refine (QF1.out _ X1.out (H1.out.kept HB.out)).mono ?_
          rintro e w' ⟨rfl, rfl⟩
          go_wp2_with fail
          refine (QC.out _ HB.out).mono ?_
          rintro e wn ⟨rfl, hb⟩
          replace X1 := hide (X1.out.kept hb)
          replace X2 := hide (X2.out.kept hb)
          replace HO := hide (HO.out.kept hb)
          replace HB := hide (Bel.then HB.out hb)
          clear hb
          obtain ⟨wr, hwr⟩ : ∃ wr, wr = wn := ⟨_, rfl⟩
          subst hwr
          clear Q1 Q2 QF1 QF2 QC
          go_wp2_with fail
          refine (QTr.out _ X2.out (H2.out.kept HB.out)).mono ?_
          rintro e w' ⟨rfl, rfl⟩
          have hX := X2.out.set (sndA d2 1 B2) (m2 - 1) (d2 - 1)
          have hO := X1.out.far (p := ⟨g2, 0, none⟩) hne (.slice (sndA d2 1 B2) (m2 - 1) (d2 - 1))
          have hW := HO.out.far X2.out (.slice (sndA d2 1 B2) (m2 - 1) (d2 - 1))
          have hB := HB.out.setCell (p := ⟨g2, 0, none⟩) hwg2 (.slice (sndA d2 1 B2) (m2 - 1) (d2 - 1))
          replace X2 := hide hX
          replace X1 := hide hO
          replace HO := hide hW
          replace HB := hide hB
          clear hX hO hW hB
          generalize wr.setCell ⟨g2, 0, none⟩ (.slice (sndA d2 1 B2) (m2 - 1) (d2 - 1)) = w3 at *
          go_wp2_with (at_builtin; refine wpList_app rfl (.tmp 36) (.tmp 39) 29 rfl w.heap.size 23 i0 _ 1 24 Try.underlying29 hi0 hz0 hz1 hz2 rfl (by omega) u7 os.length (os.map hdV) rfl (HO.out.kept (Bel.one w3 (.cells #[.slice b.1.A b.1.n b.1.c] 23))) _ (some ⟨w3.heap.size, 0, none⟩) 1 1 [.slice b.1.A b.1.n b.1.c] rfl rfl (cells_lit w3 #[.slice b.1.A b.1.n b.1.c] 23) (by intro u hu; rw [List.mem_singleton.1 hu]; rfl) (by unfold maxLen; omega) (by omega) (by have := HB.out.size; simp only [World.size_alloc]; omega) (by intro h; cases h) ?_; intro v1 w4 hown hgr _; have HO4 := hide (show OwnH w.heap.size w4 v1 (os ++ [b]) from by unfold OwnH; rw [List.length_append, List.map_append]; exact hown); have X1n := hide ((X1.out.kept (Bel.one w3 (.cells #[.slice b.1.A b.1.n b.1.c] 23))).grown hgr ((HO.out.kept (Bel.one w3 (.cells #[.slice b.1.A b.1.n b.1.c] 23))).ne (X1.out.kept (Bel.one w3 (.cells #[.slice b.1.A b.1.n b.1.c] 23))))); have X2n := hide ((X2.out.kept (Bel.one w3 (.cells #[.slice b.1.A b.1.n b.1.c] 23))).grown hgr ((HO.out.kept (Bel.one w3 (.cells #[.slice b.1.A b.1.n b.1.c] 23))).ne (X2.out.kept (Bel.one w3 (.cells #[.slice b.1.A b.1.n b.1.c] 23))))); have HBn := hide (own_grown (Bel.alloc HB.out (.cells #[.slice b.1.A b.1.n b.1.c] 23)) hgr (HO.out.kept (Bel.one w3 (.cells #[.slice b.1.A b.1.n b.1.c] 23))).blk); clear hown hgr HO X1 X2 HB)
          go_roundw
          case rel => exact ⟨os ++ [b], a :: l, r, B1, sndA d2 1 B2, m1, d1, m2 - 1, d2 - 1, HO4, X1n, X2n, H1, hide (hs_back H2.out hm2), HBn, HE2⟩
          case measure => have e2 := OwnH.len HO4.out; rw [List.length_append] at e2; simp only [List.length_cons, List.length_nil] at e2; have e1 := hlv.out; omega
        | false =>
          have HE2 : Hid ((os ++ [a]) ++ mergeL (ltK ks) l (b :: r) = M) := by show _ = _; rw [← HE.out, mergeL_left hx, List.append_assoc]; rfl
          rw [hx] at QC
          clear hx HE
          go_wp2_with fail
          refine (Q1.out _ X1.out).mono ?_
          rintro e w' ⟨rfl, rfl⟩
          go_wp2_with fail
          refine (Q2.out _ X2.out).mono ?_
          rintro e w' ⟨rfl, rfl⟩
          go_wp2_with fail
          refine (QF2.out _ X2.out (H2.out.kept HB.out)).mono ?_
          rintro e w' ⟨rfl, rfl⟩
          go_wp2_with fail
          refine (QF1.out _ X1.out (H1.out.kept HB.out)).mono ?_
          rintro e w' ⟨rfl, rfl⟩
          go_wp2_with fail
          refine (QC.out _ HB.out).mono ?_
          rintro e wn ⟨rfl, hb⟩
          replace X1 := hide (X1.out.kept hb)
          replace X2 := hide (X2.out.kept hb)
          replace HO := hide (HO.out.kept hb)
          replace HB := hide (Bel.then HB.out hb)
          clear hb
          obtain ⟨wr, hwr⟩ : ∃ wr, wr = wn := ⟨_, rfl⟩
          subst hwr
          clear Q1 Q2 QF1 QF2 QC
          go_wp2_with fail
          refine (QTl.out _ X1.out (H1.out.kept HB.out)).mono ?_
          rintro e w' ⟨rfl, rfl⟩
          have hX := X1.out.set (sndA d1 1 B1) (m1 - 1) (d1 - 1)
          have hO := X2.out.far (p := ⟨g1, 0, none⟩) (fun e => hne e.symm) (.slice (sndA d1 1 B1) (m1 - 1) (d1 - 1))
          have hW := HO.out.far X1.out (.slice (sndA d1 1 B1) (m1 - 1) (d1 - 1))
          have hB := HB.out.setCell (p := ⟨g1, 0, none⟩) hwg1 (.slice (sndA d1 1 B1) (m1 - 1) (d1 - 1))
          replace X1 := hide hX
          replace X2 := hide hO
          replace HO := hide hW
          replace HB := hide hB
          clear hX hO hW hB
          generalize wr.setCell ⟨g1, 0, none⟩ (.slice (sndA d1 1 B1) (m1 - 1) (d1 - 1)) = w3 at *
          go_wp2_with (at_builtin; refine wpList_app rfl (.tmp 41) (.tmp 44) 29 rfl w.heap.size 23 i0 _ 1 24 Try.underlying29 hi0 hz0 hz1 hz2 rfl (by omega) u7 os.length (os.map hdV) rfl (HO.out.kept (Bel.one w3 (.cells #[.slice a.1.A a.1.n a.1.c] 23))) _ (some ⟨w3.heap.size, 0, none⟩) 1 1 [.slice a.1.A a.1.n a.1.c] rfl rfl (cells_lit w3 #[.slice a.1.A a.1.n a.1.c] 23) (by intro u hu; rw [List.mem_singleton.1 hu]; rfl) (by unfold maxLen; omega) (by omega) (by have := HB.out.size; simp only [World.size_alloc]; omega) (by intro h; cases h) ?_; intro v1 w4 hown hgr _; have HO4 := hide (show OwnH w.heap.size w4 v1 (os ++ [a]) from by unfold OwnH; rw [List.length_append, List.map_append]; exact hown); have X1n := hide ((X1.out.kept (Bel.one w3 (.cells #[.slice a.1.A a.1.n a.1.c] 23))).grown hgr ((HO.out.kept (Bel.one w3 (.cells #[.slice a.1.A a.1.n a.1.c] 23))).ne (X1.out.kept (Bel.one w3 (.cells #[.slice a.1.A a.1.n a.1.c] 23))))); have X2n := hide ((X2.out.kept (Bel.one w3 (.cells #[.slice a.1.A a.1.n a.1.c] 23))).grown hgr ((HO.out.kept (Bel.one w3 (.cells #[.slice a.1.A a.1.n a.1.c] 23))).ne (X2.out.kept (Bel.one w3 (.cells #[.slice a.1.A a.1.n a.1.c] 23))))); have HBn := hide (own_grown (Bel.alloc HB.out (.cells #[.slice a.1.A a.1.n a.1.c] 23)) hgr (HO.out.kept (Bel.one w3 (.cells #[.slice a.1.A a.1.n a.1.c] 23))).blk); clear hown hgr HO X1 X2 HB)
          go_roundw
          case rel => exact ⟨os ++ [a], l, b :: r, sndA d1 1 B1, B2, m1 - 1, d1 - 1, m2, d2, HO4, X1n, X2n, hide (hs_back H1.out hm1), H2, HBn, HE2⟩
          case measure => have e2 := OwnH.len HO4.out; rw [List.length_append] at e2; simp only [List.length_cons, List.length_nil] at e2; have e1 := hlv.out; omega
end Go.Proofs.Ytahdkfenpflahaa
