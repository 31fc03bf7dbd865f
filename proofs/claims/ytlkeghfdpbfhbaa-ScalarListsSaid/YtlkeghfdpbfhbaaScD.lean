/- Rows of values cut at their front; the contracts of scalar's in, choose, of tri.Any of nothing. -/
import Derived.Test.YtlkeghfdpbfhbaaScC
namespace Go.Proofs.Ytlkeghfdpbfhbaa
set_option linter.unusedVariables false
open Go.ChangeShapes Go.WideShapes Go.ChangeAt Go.RowKit

theorem flat_drop {α : Type} : ∀ (xss : List (List α)) (k j : Nat), (∀ ys ∈ xss, ys.length = k) → xss.flatten.drop (j * k) = (xss.drop j).flatten
  | [], k, j, _ => by simp
  | ys :: l, k, 0, _ => by simp
  | ys :: l, k, j + 1, hk => by
    have hy := hk ys List.mem_cons_self
    rw [List.flatten_cons, List.drop_succ_cons, ← flat_drop l k j fun zs hz => hk zs (List.mem_cons_of_mem _ hz), List.drop_append, List.drop_of_length_le (by rw [hy, Nat.succ_mul]; omega), List.nil_append, hy]
    congr 1
    rw [Nat.succ_mul]
    omega
def cutA (c j k : Nat) (A : Option Addr) : Option Addr := if c = j then A else A.map (·.add (j * k))
theorem SlAt.cut {α : Type} {f : α → List Value} {k : Nat} {w : World} {B n c : Nat} {A : Option Addr} {l : List α} (h : SlAt f k w B A n c l) {j : Nat} (hj : j ≤ n) : SlAt f k w B (cutA c j k A) (n - j) (c - j) (l.drop j) := by
  have hl := h.len
  have hc := h.cap
  have hm := h.max
  refine ⟨by rw [List.length_drop]; omega, by omega, by omega, fun e => ?_, ⟨?_, fun h0 => ?_⟩⟩
  · unfold cutA at e
    split at e
    · omega
    · have := h.nil (Option.map_eq_none_iff.1 e)
      omega
  · intro xs hx
    rw [List.map_drop] at hx
    exact h.recs.1 xs (List.mem_of_mem_drop hx)
  · rw [List.map_drop, ← flat_drop _ k j h.recs.1] at h0 ⊢
    rw [List.length_drop] at h0
    obtain ⟨b, off, e, hb, hcell⟩ := h.recs.2 (by omega)
    subst e
    have hne : ¬ c = j := by
      intro e
      have h1 : n = j := by omega
      rw [flat_len _ k h.recs.1, List.length_map, hl, h1] at h0
      omega
    refine ⟨b, off + j * k, ?_, hb, fun i u hu => ?_⟩
    · unfold cutA
      rw [if_neg hne]
      show some ((⟨b, off, none⟩ : Addr).add (j * k)) = _
      rw [add_off]
    · rw [Nat.add_assoc]
      refine hcell (j * k + i) u ?_
      rw [List.getElem?_drop] at hu
      exact hu
theorem val_info : (Try.prog.info? 26).map (fun i => (i.zero, i.size, i.bytes)) = some (some (.agg #[.int .i64 0, .int .i64 0, .string { data := #[] }]), 3, 32) := by kernel_rfl
theorem cut_run {c n : Nat} {A : Option Addr} {j : Nat} (hj : j ≤ n) (W : World) : (Instr.slice 22 (.slice A n c) (some (.int .i64 (j : Int))) none none).run Try.prog W = .ok (.slice (cutA c j 3 A) (n - j) (c - j)) W := by
  obtain ⟨i0, hi0, hz0, hz1, hz2⟩ := info_parts val_info
  rw [run_slice_l (P := Try.prog) W 22 A n c (by kernel_rfl) .i64 (j : Int) (by omega) (by omega)]
  have he : Try.prog.elem 22 = 26 := by kernel_rfl
  rw [he]
  have hs : (sizeOf 26).run Try.prog W = .ok 3 W := by simp [sizeOf, typeInfo, hi0, hz1]
  rw [hs]
  rfl
theorem any_nil (w : World) : Calls Try.prog 51 #[.slice none 0 0] w fun e w' => e = .returned (.int .i64 0) ∧ w = w' := by
  go_enter Try.func51, Try.ntmps51
  go_wp2_with fail
  go_loop [3, 8] (fun a i => a = .int .i64 0 ∧ i = .int .i64 0) (fun _ _ => 0)
  case atStart => exact ⟨rfl, rfl⟩
  case round =>
    obtain ⟨rfl, rfl⟩ := hrel
    go_wp2_with fail
    go_ret
    exact ⟨rfl, rfl⟩
theorem inI_step {a : ValV} {l : List ValV} {k : Nat} {x : ValV} (h : l[k]? = some x) : orI (inI a (l.take k)) (frV (cmpOpV 11 a x)) = inI a (l.take (k + 1)) := by
  rw [take_at h]
  unfold inI
  rw [List.foldl_append]
  rfl
abbrev RowV := SlAt valCells 3
set_option maxRecDepth 100000 in
set_option maxHeartbeats 4000000 in
theorem in_c2 (a : ValV) (A : Option Addr) (n c : Nat) (l : List ValV) (w : World) (h : RowV w w.heap.size A n c l) : Calls Try.prog 27 #[valAgg a, .slice A n c] w (GivesV w (inV a l)) := by
  have hmx := Nat.le_trans h.cap h.max
  unfold maxLen at hmx
  have hlen := h.len
  obtain ⟨h1, h2, h3⟩ := vb_two w a.kind a.num a.str
  have H1 := hide h1
  have HX0 := hide h2
  have HB0 := hide h3
  have HR := hide h
  have QA := hide (fun W => any_nil W)
  have QC := hide (fun x W => cmpop_c 11 a x W)
  have QF := hide (fun x W => fromv_c x W)
  have QO := hide (fun (x y : Int) W => or16 x y W)
  have QV := hide (fun x W => triv_c x W)
  unfold inV
  have HN := hide hlen
  clear h1 h2 h3 h hlen
  unfold valAgg at QC QF ⊢
  have H0 : Hid (inI a (l.take 0) = 0) := rfl
  obtain ⟨k, m, s⟩ := a
  simp only at QC H1 HX0 HB0 ⊢
  go_enter Try.func27, Try.ntmps27
  go_upto_region 1 with (fail)
  generalize (w.alloc (.cells #[.int .i64 k, .int .i64 m, .string s] 26)).alloc (.cells #[.int .i64 0, .int .i64 0, .string { data := #[] }] 26) = w1 at *
  go_wp2_with fail
  refine (QA.out _).mono ?_
  rintro e w2 ⟨rfl, rfl⟩
  go_wp2_with fail
  go_loopw [5, 7, 11] (fun zv _ iv wr => ∃ (j : Nat) (z : Int), zv = .int .i64 z ∧ iv = .int .i64 j ∧ j ≤ n ∧ Hid (inI ⟨k, m, s⟩ (l.take j) = z) ∧ Hid (VB wr w.heap.size ⟨k, m, s⟩) ∧ Hid (VB wr (w.heap.size + 1) nullV) ∧ Hid (Below w.heap.size w wr)) (fun _ _ iv _ => n - (intOf iv).toNat)
  case atStart => exact ⟨0, 0, rfl, rfl, Nat.zero_le _, H0, H1, HX0, HB0⟩
  case round =>
    clear H0 H1 HX0 HB0
    obtain ⟨j, z, rfl, rfl, hj, HZ, H1, HX, HB⟩ := hrel
    by_cases hlt : j < n
    · have hlti : (j : Int) < n := by omega
      have hwk : IntKind.i64.wrap ((j : Int) + 1) = (j : Int) + 1 := IntWalk.i64_in _ (by omega)
      obtain ⟨blk, off, x, rfl, _, hx, hc⟩ := (HR.out.kept HB.out).at (by omega) hlt
      have HZ2 := hide (inI_step (a := ⟨k, m, s⟩) hx)
      have Q1 := hide (fun W => QC.out x W)
      have l0 := hc 0 _ rfl
      have l1 := hc 1 _ rfl
      have l2 := hc 2 _ rfl
      rw [Nat.add_zero] at l0
      rw [← Nat.add_assoc] at l1 l2
      rw [HZ.out] at HZ2
      generalize cmpOpV 11 ⟨k, m, s⟩ x = y at *
      have Q2 := hide (fun W => QF.out y W)
      have Q3 := hide (fun W => QO.out z (frV y) W)
      obtain ⟨z2, hz2⟩ : ∃ z2, orI z (frV y) = z2 := ⟨_, rfl⟩
      rw [hz2] at HZ2 Q3
      have HZ3 : Hid (inI ⟨k, m, s⟩ (l.take (j + 1)) = z2) := HZ2.out.symm
      generalize frV y = f at *
      obtain ⟨xk, xn, xs⟩ := x
      simp only at Q1 l0 l1 l2
      clear hc hx HZ HZ2 hz2 QC QF QO
      obtain ⟨o, ho⟩ : ∃ o : Obj, o = .cells #[.int .i64 xk, .int .i64 xn, .string xs] 26 := ⟨_, rfl⟩
      have HY := hide (show VB (wr.alloc o) wr.heap.size ⟨xk, xn, xs⟩ by rw [ho]; exact vb_new wr _ _ _)
      replace H1 := hide (H1.out.kept (Bel.one wr o))
      replace HX := hide (HX.out.kept (Bel.one wr o))
      replace HB := hide (HB.out.alloc HB.out.size o)
      go_upto_region 5 with (fail)
      rw [← ho]
      clear ho l0 l1 l2
      generalize wr.alloc o = w3 at *
      obtain ⟨⟨c0, c1, c2⟩, _⟩ := H1.out.all
      obtain ⟨⟨d0, d1, d2⟩, _⟩ := HY.out.all
      go_wp2_with fail
      refine (Q1.out _).mono ?_
      rintro e w4 ⟨rfl, hb⟩
      replace H1 := hide (H1.out.kept hb)
      replace HX := hide (HX.out.kept hb)
      replace HB := hide (Bel.then HB.out hb)
      clear hb c0 c1 c2 d0 d1 d2 HY
      unfold valAgg
      go_wp2_with fail
      refine (Q2.out _).mono ?_
      rintro e w5 ⟨rfl, hb⟩
      replace H1 := hide (H1.out.kept hb)
      replace HX := hide (HX.out.kept hb)
      replace HB := hide (Bel.then HB.out hb)
      clear hb
      go_wp2_with fail
      refine (Q3.out _).mono ?_
      rintro e w6 ⟨rfl, rfl⟩
      go_wp2_with fail
      go_roundw
      case rel => exact ⟨j + 1, z2, rfl, by go_num, by omega, HZ3, H1, HX, HB⟩
      case measure => simp [intOf]; omega
    · have hlti : ¬ (j : Int) < n := by omega
      have hzz : inI ⟨k, m, s⟩ l = z := by
        have := HZ.out
        rw [List.take_of_length_le (by rw [HN.out]; omega)] at this
        exact this
      have Q1 := hide (fun W => QV.out z W)
      obtain ⟨r, hr⟩ : ∃ r, trV z = r := ⟨_, rfl⟩
      have HEQ : Hid (trV (inI ⟨k, m, s⟩ l) = r) := by show _ = _; rw [hzz]; exact hr
      rw [hr] at Q1
      clear hzz hr HZ QV QC QF QO H1
      go_wp2_with fail
      refine (Q1.out _).mono ?_
      rintro e w4 ⟨rfl, hb⟩
      replace HX := hide (HX.out.kept hb)
      replace HB := hide (Bel.then HB.out hb)
      clear hb
      obtain ⟨⟨c0, c1, c2⟩, ⟨y0, y1, y2⟩⟩ := HX.out.all
      have HS := hide (HX.out.set3 r)
      have HBS := hide (below_setV HB.out (show w.heap.size ≤ w.heap.size + 1 by omega) r)
      clear HX HB
      unfold valAgg
      go_wp2_with fail
      exact end_v Try.results27 rfl rfl HS.out ⟨by rw [HEQ.out], HBS.out⟩
set_option maxRecDepth 100000 in
set_option maxHeartbeats 4000000 in
theorem choose_c (A : Option Addr) (n c : Nat) (l : List ValV) (w : World) (h : RowV w w.heap.size A n c l) : Calls Try.prog 28 #[.slice A n c] w (GivesV w (chooseV l)) := by
  obtain ⟨R, hR⟩ : ∃ R, chooseV l = R := ⟨_, rfl⟩
  rw [hR]
  have HX0 := hide (vb_one w)
  have HB0 := hide (Bel.one w zO)
  have HR0 := hide (h.kept (Bel.one w zO))
  have HC0 := hide hR
  clear h hR
  have QF := hide (fun x W => fromv_c x W)
  unfold valAgg at QF
  go_enter Try.func28, Try.ntmps28
  go_upto_region 1 with (fail)
  generalize w.alloc (.cells #[.int .i64 0, .int .i64 0, .string { data := #[] }] 26) = w1 at *
  go_wp2_with fail
  go_loopw [0] (fun v wr => ∃ (A : Option Addr) (n c : Nat) (l : List ValV), v = .slice A n c ∧ Hid (RowV wr wr.heap.size A n c l) ∧ Hid (chooseV l = R) ∧ Hid (VB wr w.heap.size nullV) ∧ Hid (Below w.heap.size w wr)) (fun v _ => lenV v)
  case atStart => exact ⟨A, n, c, l, rfl, HR0, HC0, HX0, HB0⟩
  case round =>
    clear HR0 HC0 HX0 HB0
    obtain ⟨A, n, c, l, rfl, HR, HC, HX, HB⟩ := hrel
    have hmx := Nat.le_trans HR.out.cap HR.out.max
    unfold maxLen at hmx
    have hlen := HR.out.len
    match l, hlen, HR, HC with
    | [], hlen, HR, HC =>
      simp only [List.length_nil] at hlen
      subst hlen
      obtain rfl : nullV = R := HC.out
      obtain ⟨⟨c0, c1, c2⟩, ⟨y0, y1, y2⟩⟩ := HX.out.all
      have HS := hide (HX.out.set3 nullV)
      have HBS := hide (below_setV HB.out (Nat.le_refl _) nullV)
      clear HX HB
      go_wp2_with fail
      exact end_v Try.results28 rfl rfl HS.out ⟨rfl, HBS.out⟩
    | [x], hlen, HR, HC =>
      simp only [List.length_singleton] at hlen
      subst hlen
      obtain rfl : x = R := HC.out
      obtain ⟨blk, off, y, rfl, _, hy, hc⟩ := HR.out.at (by omega) (show 0 < 1 by omega)
      injection hy with hy
      subst hy
      have l0 := hc 0 _ rfl
      have l1 := hc 1 _ rfl
      have l2 := hc 2 _ rfl
      simp only [Nat.zero_mul, Nat.zero_add, Nat.add_zero] at l0 l1 l2
      obtain ⟨⟨c0, c1, c2⟩, ⟨y0, y1, y2⟩⟩ := HX.out.all
      have HS := hide (HX.out.set3 x)
      have HBS := hide (below_setV HB.out (Nat.le_refl _) x)
      clear HX HB hc
      go_wp2_with fail
      exact end_v Try.results28 rfl rfl HS.out ⟨rfl, HBS.out⟩
    | x :: y :: l2, hlen, HR, HC =>
      simp only [List.length_cons] at hlen
      have hn2 : (2 : Int) ≤ n := by omega
      have hcut := fun W => cut_run (A := A) (n := n) (c := c) (j := 2) (by omega) W
      have HCut := hide (HR.out.cut (j := 2) (by omega))
      obtain ⟨A2, hA2⟩ : ∃ A2, cutA c 2 3 A = A2 := ⟨_, rfl⟩
      rw [hA2] at hcut HCut
      obtain ⟨blk, off, x', rfl, _, hx, hc⟩ := HR.out.at (by omega) (show 0 < n by omega)
      injection hx with hx
      subst hx
      obtain ⟨blk', off', y', he, _, hy, hcy⟩ := HR.out.at (by omega) (show 1 < n by omega)
      injection he with he
      injection he with he1 he2 he3
      subst he1 he2
      injection hy with hy
      subst hy
      have l0 := hc 0 _ rfl
      have l1 := hc 1 _ rfl
      have l2' := hc 2 _ rfl
      have m0 := hcy 0 _ rfl
      have m1 := hcy 1 _ rfl
      have m2 := hcy 2 _ rfl
      simp only [Nat.zero_mul, Nat.zero_add, Nat.add_zero, Nat.one_mul] at l0 l1 l2' m0 m1 m2
      have Q1 := hide (fun W => QF.out x W)
      by_cases hf : frV x = 2
      · obtain rfl : y = R := by rw [← HC.out, chooseV, if_pos hf]
        rw [hf] at Q1
        clear hcut HCut hc hcy hA2 HC hf QF
        go_upto_region 3 with (fail)
        go_wp2_with fail
        refine (Q1.out _).mono ?_
        rintro e w4 ⟨rfl, hb⟩
        have k0 := kept hb m0
        have k1 := kept hb m1
        have k2 := kept hb m2
        replace HX := hide (HX.out.kept hb)
        replace HB := hide (Bel.then HB.out hb)
        obtain ⟨⟨c0, c1, c2⟩, ⟨y0, y1, y2⟩⟩ := HX.out.all
        have HS := hide (HX.out.set3 y)
        have HBS := hide (below_setV HB.out (Nat.le_refl _) y)
        clear HX HB hb l0 l1 l2' m0 m1 m2
        go_wp2_with fail
        exact end_v Try.results28 rfl rfl HS.out ⟨rfl, HBS.out⟩
      · have HC2 : Hid (chooseV l2 = R) := by show _ = _; rw [← HC.out, chooseV, if_neg hf]
        have hfi : (frV x == 2) = false := by simpa using hf
        have HR2 : Hid (RowV wr wr.heap.size A2 (n - 2) (c - 2) l2) := HCut.out
        generalize frV x = f at *
        have HA2 := hide hA2
        clear HCut hc hcy hA2 HC hf QF m0 m1 m2
        go_upto_region 3 with (fail)
        go_wp2_with fail
        refine (Q1.out _).mono ?_
        rintro e w4 ⟨rfl, hb⟩
        replace HR2 := hide (HR2.out.kept hb)
        replace HX := hide (HX.out.kept hb)
        replace HB := hide (Bel.then HB.out hb)
        clear hb l0 l1 l2' Q1
        go_wp2_with fail
        go_roundw
        case rel => exact ⟨A2, n - 2, c - 2, l2, by rw [← HA2.out]; rfl, HR2, HC2, HX, HB⟩
        case measure => simp [lenV]; omega
end Go.Proofs.Ytlkeghfdpbfhbaa
