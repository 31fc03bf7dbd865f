/- The reference's told, reckon, Compared, one: as the program's. -/
import Derived.Test.YtlkeghfdpbfhbaaScR
namespace Go.Proofs.Ytlkeghfdpbfhbaa
set_option linter.unusedVariables false
open Go.ChangeShapes Go.WideShapes Go.ChangeAt Go.RowKit

theorem rboolv_c (b : Bool) (w : World) : Calls Try.prog 61 #[.bool b] w (GivesV w (boolV b)) := rbool_c b w
theorem rnumv_c (n : Int) (w : World) : Calls Try.prog 58 #[.int .i64 n] w (GivesV w (numV n)) := rnum_c n w
theorem rstrv_c (s : ByteArray) (w : World) : Calls Try.prog 67 #[.string s] w (GivesV w (strV s)) := rstr_c s w
theorem rtriv_c (a : Int) (w : World) : Calls Try.prog 34 #[.int .i64 a] w (GivesV w (trV a)) := value19 a w
theorem rfromv_c (v : ValV) (w : World) : Calls Try.prog 36 #[valAgg v] w fun e w' => e = .returned (.int .i64 (frV v)) ∧ Below w.heap.size w w' := from21 v.kind v.num v.str w
set_option maxHeartbeats 1000000 in
theorem rtoldv_c (p : Int × Bool) (w : World) : Calls Try.prog 55 #[.int .i64 p.1, .bool p.2] w (GivesV w (toldV p)) := by
  obtain ⟨n, b⟩ := p
  have HX := hide (vb_one w)
  have HB := hide (Bel.one w zO)
  cases b with
  | false =>
    obtain ⟨⟨c0, c1, c2⟩, ⟨y0, y1, y2⟩⟩ := HX.out.all
    have HS := hide (HX.out.set3 nullV)
    have HBS := hide (below_setV HB.out (Nat.le_refl _) nullV)
    clear HX HB
    go_enter Try.func55, Try.ntmps55
    go_upto_region 1 with (fail)
    generalize w.alloc (.cells #[.int .i64 0, .int .i64 0, .string { data := #[] }] 26) = w1 at *
    go_wp2_with fail
    exact end_v Try.results55 rfl rfl HS.out ⟨rfl, HBS.out⟩
  | true =>
    have QN := hide (fun W => rnumv_c n W)
    go_enter Try.func55, Try.ntmps55
    go_upto_region 1 with (fail)
    generalize w.alloc (.cells #[.int .i64 0, .int .i64 0, .string { data := #[] }] 26) = w1 at *
    go_wp2_with fail
    refine (QN.out _).mono ?_
    rintro e w2 ⟨rfl, hb⟩
    replace HX := hide (HX.out.kept hb)
    replace HB := hide (Bel.then HB.out hb)
    obtain ⟨⟨c0, c1, c2⟩, ⟨y0, y1, y2⟩⟩ := HX.out.all
    have HS := hide (HX.out.set3 (numV n))
    have HBS := hide (below_setV HB.out (Nat.le_refl _) (numV n))
    clear HX HB hb
    unfold valAgg
    go_wp2_with fail
    exact end_v Try.results55 rfl rfl HS.out ⟨rfl, HBS.out⟩
set_option maxRecDepth 100000 in
set_option maxHeartbeats 4000000 in
theorem rcmpop_c (op : Int) (a b : ValV) (w : World) (ha : a.str.size ≤ 1048576) (hb : b.str.size ≤ 1048576) : Calls Try.prog 33 #[.int .i64 op, valAgg a, valAgg b] w (GivesV w (cmpOpV op a b)) := by
  obtain ⟨h1, h2, h3, h4⟩ := vb_three w a.kind a.num a.str b.kind b.num b.str
  have H1 := hide h1
  have H2 := hide h2
  have H3 := hide h3
  have HB := hide h4
  have QC := hide (fun W => rcompare_c a b W (by omega) (by omega))
  have QB := hide (fun q W => rboolv_c q W)
  clear h1 h2 h3 h4 ha hb
  unfold cmpOpV
  generalize compV a b = p at *
  obtain ⟨c, q⟩ := p
  unfold valAgg at QC ⊢
  simp only at QC ⊢
  obtain ⟨k, n, s⟩ := a
  obtain ⟨k2, n2, s2⟩ := b
  simp only at QC H1 H2 H3 HB ⊢
  cases q with
  | false =>
    simp only [Bool.false_eq_true, if_false]
    go_enter Try.func33, Try.ntmps33
    go_upto_region 1 with (fail)
    generalize ((w.alloc (.cells #[.int .i64 k, .int .i64 n, .string s] 26)).alloc (.cells #[.int .i64 k2, .int .i64 n2, .string s2] 26)).alloc (.cells #[.int .i64 0, .int .i64 0, .string { data := #[] }] 26) = w1 at *
    obtain ⟨⟨c0, c1, c2⟩, _⟩ := H1.out.all
    obtain ⟨⟨d0, d1, d2⟩, _⟩ := H2.out.all
    go_wp2_with fail
    refine (QC.out _).mono ?_
    rintro e w2 ⟨rfl, hb⟩
    replace H3 := hide (H3.out.kept hb)
    replace HB := hide (Bel.then HB.out hb)
    clear c0 c1 c2 d0 d1 d2 H1 H2 hb
    obtain ⟨⟨c0, c1, c2⟩, ⟨y0, y1, y2⟩⟩ := H3.out.all
    have HS := hide (H3.out.set3 nullV)
    have HBS := hide (below_setV HB.out (show w.heap.size ≤ w.heap.size + 2 by omega) nullV)
    clear H3 HB
    go_wp2_with fail
    exact end_v Try.results33 rfl rfl HS.out ⟨rfl, HBS.out⟩
  | true =>
    simp only [if_true]
    have hop : op = 11 ∨ op = 12 ∨ op = 13 ∨ op = 14 ∨ op = 15 ∨ ((op == 11) = false ∧ (op == 12) = false ∧ (op == 13) = false ∧ (op == 14) = false ∧ (op == 15) = false) := by
      simp only [beq_eq_false_iff_ne]
      omega
    have hval : ∃ q, opB op c = q ∧ ((op = 11 ∧ q = (c == 0)) ∨ (op = 12 ∧ q = (c != 0)) ∨ (op = 13 ∧ q = decide (c < 0)) ∨ (op = 14 ∧ q = decide (c ≤ 0)) ∨ (op = 15 ∧ q = decide (0 < c)) ∨ ((op == 11) = false ∧ (op == 12) = false ∧ (op == 13) = false ∧ (op == 14) = false ∧ (op == 15) = false ∧ q = decide (0 ≤ c))) := by
      refine ⟨_, rfl, ?_⟩
      rcases hop with rfl | rfl | rfl | rfl | rfl | ⟨e1, e2, e3, e4, e5⟩
      · exact .inl ⟨rfl, rfl⟩
      · exact .inr (.inl ⟨rfl, rfl⟩)
      · exact .inr (.inr (.inl ⟨rfl, rfl⟩))
      · exact .inr (.inr (.inr (.inl ⟨rfl, rfl⟩)))
      · exact .inr (.inr (.inr (.inr (.inl ⟨rfl, rfl⟩))))
      · refine .inr (.inr (.inr (.inr (.inr ⟨e1, e2, e3, e4, e5, ?_⟩))))
        simp only [beq_eq_false_iff_ne] at e1 e2 e3 e4 e5
        unfold opB
        rw [if_neg e1, if_neg e2, if_neg e3, if_neg e4, if_neg e5]
    obtain ⟨q, hq, hval⟩ := hval
    rw [hq]
    clear hop hq
    rcases hval with ⟨rfl, rfl⟩ | ⟨rfl, rfl⟩ | ⟨rfl, rfl⟩ | ⟨rfl, rfl⟩ | ⟨rfl, rfl⟩ | ⟨e1, e2, e3, e4, e5, rfl⟩
    all_goals
      go_enter Try.func33, Try.ntmps33
      go_upto_region 1 with (fail)
      generalize ((w.alloc (.cells #[.int .i64 k, .int .i64 n, .string s] 26)).alloc (.cells #[.int .i64 k2, .int .i64 n2, .string s2] 26)).alloc (.cells #[.int .i64 0, .int .i64 0, .string { data := #[] }] 26) = w1 at *
      obtain ⟨⟨c0, c1, c2⟩, _⟩ := H1.out.all
      obtain ⟨⟨d0, d1, d2⟩, _⟩ := H2.out.all
      go_wp2_with fail
      refine (QC.out _).mono ?_
      rintro e w2 ⟨rfl, hb⟩
      replace H3 := hide (H3.out.kept hb)
      replace HB := hide (Bel.then HB.out hb)
      clear c0 c1 c2 d0 d1 d2 H1 H2 hb
      go_wp2_with fail
      refine (QB.out _ _).mono ?_
      rintro e w3 ⟨rfl, hb⟩
      replace H3 := hide (H3.out.kept hb)
      replace HB := hide (Bel.then HB.out hb)
      obtain ⟨⟨c0, c1, c2⟩, ⟨y0, y1, y2⟩⟩ := H3.out.all
      generalize boolV _ = r at *
      have HS := hide (H3.out.set3 r)
      have HBS := hide (below_setV HB.out (show w.heap.size ≤ w.heap.size + 2 by omega) r)
      clear H3 HB hb
      unfold valAgg
      go_wp2_with fail
      exact end_v Try.results33 rfl rfl HS.out ⟨rfl, HBS.out⟩
set_option maxRecDepth 100000 in
set_option maxHeartbeats 2000000 in
theorem rarith_c (op a b : Int) (w : World) : Calls Try.prog 65 #[.int .i64 op, .int .i64 a, .int .i64 b] w (GivesV w (toldV (arP op a b))) := by
  have HX := hide (vb_one w)
  have HB := hide (Bel.one w zO)
  have Q1 := hide (fun W => radd_c a b W)
  have Q2 := hide (fun W => rsub_c a b W)
  have Q3 := hide (fun W => rmul_c a b W)
  have Q4 := hide (fun W => rdiv_c a b W)
  have Q5 := hide (fun W => rmod_c a b W)
  have QM := hide (fun p W => rtoldv_c p W)
  unfold arP
  by_cases h5 : op = 5
  · subst h5
    rw [if_pos rfl]
    generalize addP a b = p at *
    go_enter Try.func65, Try.ntmps65
    go_upto_region 1 with (fail)
    generalize w.alloc (.cells #[.int .i64 0, .int .i64 0, .string { data := #[] }] 26) = w1 at *
    go_wp2_with fail
    refine (Q1.out _).mono ?_
    rintro e w2 ⟨rfl, rfl⟩
    go_wp2_with fail
    refine (QM.out _ _).mono ?_
    rintro e w3 ⟨rfl, hb⟩
    replace HX := hide (HX.out.kept hb)
    replace HB := hide (Bel.then HB.out hb)
    clear hb
    generalize toldV _ = r at *
    unfold valAgg
    obtain ⟨⟨c0, c1, c2⟩, ⟨y0, y1, y2⟩⟩ := HX.out.all
    have HS := hide (HX.out.set3 (r))
    have HBS := hide (below_setV HB.out (Nat.le_refl _) (r))
    clear HX HB 
    go_wp2_with fail
    exact end_v Try.results65 rfl rfl HS.out ⟨rfl, HBS.out⟩
  have e5 : (op == 5) = false := by simpa using h5
  by_cases h6 : op = 6
  · subst h6
    rw [if_neg (by decide), if_pos rfl]
    generalize subP a b = p at *
    go_enter Try.func65, Try.ntmps65
    go_upto_region 1 with (fail)
    generalize w.alloc (.cells #[.int .i64 0, .int .i64 0, .string { data := #[] }] 26) = w1 at *
    go_wp2_with fail
    refine (Q2.out _).mono ?_
    rintro e w2 ⟨rfl, rfl⟩
    go_wp2_with fail
    refine (QM.out _ _).mono ?_
    rintro e w3 ⟨rfl, hb⟩
    replace HX := hide (HX.out.kept hb)
    replace HB := hide (Bel.then HB.out hb)
    clear hb
    generalize toldV _ = r at *
    unfold valAgg
    obtain ⟨⟨c0, c1, c2⟩, ⟨y0, y1, y2⟩⟩ := HX.out.all
    have HS := hide (HX.out.set3 (r))
    have HBS := hide (below_setV HB.out (Nat.le_refl _) (r))
    clear HX HB 
    go_wp2_with fail
    exact end_v Try.results65 rfl rfl HS.out ⟨rfl, HBS.out⟩
  have e6 : (op == 6) = false := by simpa using h6
  by_cases h7 : op = 7
  · subst h7
    rw [if_neg (by decide), if_neg (by decide), if_pos rfl]
    generalize mulP a b = p at *
    go_enter Try.func65, Try.ntmps65
    go_upto_region 1 with (fail)
    generalize w.alloc (.cells #[.int .i64 0, .int .i64 0, .string { data := #[] }] 26) = w1 at *
    go_wp2_with fail
    refine (Q3.out _).mono ?_
    rintro e w2 ⟨rfl, rfl⟩
    go_wp2_with fail
    refine (QM.out _ _).mono ?_
    rintro e w3 ⟨rfl, hb⟩
    replace HX := hide (HX.out.kept hb)
    replace HB := hide (Bel.then HB.out hb)
    clear hb
    generalize toldV _ = r at *
    unfold valAgg
    obtain ⟨⟨c0, c1, c2⟩, ⟨y0, y1, y2⟩⟩ := HX.out.all
    have HS := hide (HX.out.set3 (r))
    have HBS := hide (below_setV HB.out (Nat.le_refl _) (r))
    clear HX HB 
    go_wp2_with fail
    exact end_v Try.results65 rfl rfl HS.out ⟨rfl, HBS.out⟩
  have e7 : (op == 7) = false := by simpa using h7
  by_cases h8 : op = 8
  · subst h8
    rw [if_neg (by decide), if_neg (by decide), if_neg (by decide), if_pos rfl]
    generalize divP a b = p at *
    go_enter Try.func65, Try.ntmps65
    go_upto_region 1 with (fail)
    generalize w.alloc (.cells #[.int .i64 0, .int .i64 0, .string { data := #[] }] 26) = w1 at *
    go_wp2_with fail
    refine (Q4.out _).mono ?_
    rintro e w2 ⟨rfl, rfl⟩
    go_wp2_with fail
    refine (QM.out _ _).mono ?_
    rintro e w3 ⟨rfl, hb⟩
    replace HX := hide (HX.out.kept hb)
    replace HB := hide (Bel.then HB.out hb)
    clear hb
    generalize toldV _ = r at *
    unfold valAgg
    obtain ⟨⟨c0, c1, c2⟩, ⟨y0, y1, y2⟩⟩ := HX.out.all
    have HS := hide (HX.out.set3 (r))
    have HBS := hide (below_setV HB.out (Nat.le_refl _) (r))
    clear HX HB 
    go_wp2_with fail
    exact end_v Try.results65 rfl rfl HS.out ⟨rfl, HBS.out⟩
  have e8 : (op == 8) = false := by simpa using h8
  rw [if_neg h5, if_neg h6, if_neg h7, if_neg h8]
  clear h5 h6 h7 h8
  generalize modP a b = p at *
  go_enter Try.func65, Try.ntmps65
  go_upto_region 1 with (fail)
  generalize w.alloc (.cells #[.int .i64 0, .int .i64 0, .string { data := #[] }] 26) = w1 at *
  go_wp2_with fail
  refine (Q5.out _).mono ?_
  rintro e w2 ⟨rfl, rfl⟩
  go_wp2_with fail
  refine (QM.out _ _).mono ?_
  rintro e w3 ⟨rfl, hb⟩
  replace HX := hide (HX.out.kept hb)
  replace HB := hide (Bel.then HB.out hb)
  clear hb
  generalize toldV _ = r at *
  unfold valAgg
  obtain ⟨⟨c0, c1, c2⟩, ⟨y0, y1, y2⟩⟩ := HX.out.all
  have HS := hide (HX.out.set3 (r))
  have HBS := hide (below_setV HB.out (Nat.le_refl _) (r))
  clear HX HB 
  go_wp2_with fail
  exact end_v Try.results65 rfl rfl HS.out ⟨rfl, HBS.out⟩
def oneR (op : Int) (a : ValV) : ValV := if op = 3 ∨ op = 4 ∨ op = 19 then unV op a else nullV
set_option maxRecDepth 100000 in
set_option maxHeartbeats 2000000 in
theorem rone_c (op : Int) (a : ValV) (w : World) : Calls Try.prog 37 #[.int .i64 op, valAgg a] w (GivesV w (oneR op a)) := by
  obtain ⟨h1, h2, h3⟩ := vb_two w a.kind a.num a.str
  have H1 := hide h1
  have HX := hide h2
  have HB := hide h3
  have QB := hide (fun q W => rboolv_c q W)
  have QF := hide (fun W => rfromv_c a W)
  have QN := hide (fun (x : Int) W => not13 x W)
  have QV := hide (fun (x : Int) W => rtriv_c x W)
  have QG := hide (fun W => rneg_c a.num W)
  have QM := hide (fun W => rtoldv_c (negP a.num) W)
  clear h1 h2 h3
  rcases (show op = 19 ∨ op = 4 ∨ op = 3 ∨ (op ≠ 3 ∧ op ≠ 4 ∧ op ≠ 19) by omega) with rfl | rfl | rfl | ⟨g1, g2, g3⟩
  · have hv : oneR 19 a = boolV (a.kind == 0) := rfl
    rw [hv]
    clear hv
    unfold valAgg at QF ⊢
    obtain ⟨k, n, s⟩ := a
    simp only at QF QG QM H1 HX HB ⊢
    go_enter Try.func37, Try.ntmps37
    go_upto_region 1 with (fail)
    generalize (w.alloc (.cells #[.int .i64 k, .int .i64 n, .string s] 26)).alloc (.cells #[.int .i64 0, .int .i64 0, .string { data := #[] }] 26) = w1 at *
    obtain ⟨⟨c0, c1, c2⟩, _⟩ := H1.out.all
    go_wp2_with fail
    refine (QB.out _ _).mono ?_
    rintro e w2 ⟨rfl, hb⟩
    replace HX := hide (HX.out.kept hb)
    replace HB := hide (Bel.then HB.out hb)
    clear hb
    clear c0 c1 c2 H1
    generalize boolV _ = r at *
    obtain ⟨⟨c0, c1, c2⟩, ⟨y0, y1, y2⟩⟩ := HX.out.all
    have HS := hide (HX.out.set3 (r))
    have HBS := hide (below_setV HB.out (show w.heap.size ≤ w.heap.size + 1 by omega) (r))
    clear HX HB 
    unfold valAgg
    go_wp2_with fail
    exact end_v Try.results37 rfl rfl HS.out ⟨rfl, HBS.out⟩
  · have hv : oneR 4 a = trV (notI (frV a)) := rfl
    rw [hv]
    clear hv
    unfold valAgg at QF ⊢
    obtain ⟨k, n, s⟩ := a
    simp only at QF QG QM H1 HX HB ⊢
    generalize frV ⟨k, n, s⟩ = f at *
    go_enter Try.func37, Try.ntmps37
    go_upto_region 1 with (fail)
    generalize (w.alloc (.cells #[.int .i64 k, .int .i64 n, .string s] 26)).alloc (.cells #[.int .i64 0, .int .i64 0, .string { data := #[] }] 26) = w1 at *
    obtain ⟨⟨c0, c1, c2⟩, _⟩ := H1.out.all
    go_wp2_with fail
    refine (QF.out _).mono ?_
    rintro e w2 ⟨rfl, hb⟩
    replace HX := hide (HX.out.kept hb)
    replace HB := hide (Bel.then HB.out hb)
    clear hb
    clear c0 c1 c2 H1
    go_wp2_with fail
    refine (QN.out _ _).mono ?_
    rintro e w3 ⟨rfl, rfl⟩
    go_wp2_with fail
    refine (QV.out _ _).mono ?_
    rintro e w4 ⟨rfl, hb⟩
    replace HX := hide (HX.out.kept hb)
    replace HB := hide (Bel.then HB.out hb)
    clear hb
    generalize trV _ = r at *
    obtain ⟨⟨c0, c1, c2⟩, ⟨y0, y1, y2⟩⟩ := HX.out.all
    have HS := hide (HX.out.set3 (r))
    have HBS := hide (below_setV HB.out (show w.heap.size ≤ w.heap.size + 1 by omega) (r))
    clear HX HB 
    unfold valAgg
    go_wp2_with fail
    exact end_v Try.results37 rfl rfl HS.out ⟨rfl, HBS.out⟩
  · by_cases hk : a.kind = 2
    · have hv : oneR 3 a = toldV (negP a.num) := by
        unfold oneR unV
        rw [if_pos (.inl rfl), if_neg (by decide), if_neg (by decide), if_pos hk]
      rw [hv]
      clear hv
      unfold valAgg at QF ⊢
      obtain ⟨k, n, s⟩ := a
      simp only at QF QG QM H1 HX HB hk ⊢
      generalize negP n = p at *
      have hk2 : (k == 2) = true := by simp [hk]
      clear hk
      go_enter Try.func37, Try.ntmps37
      go_upto_region 1 with (fail)
      generalize (w.alloc (.cells #[.int .i64 k, .int .i64 n, .string s] 26)).alloc (.cells #[.int .i64 0, .int .i64 0, .string { data := #[] }] 26) = w1 at *
      obtain ⟨⟨c0, c1, c2⟩, _⟩ := H1.out.all
      go_wp2_with fail
      refine (QG.out _).mono ?_
      rintro e w2 ⟨rfl, rfl⟩
      go_wp2_with fail
      refine (QM.out _).mono ?_
      rintro e w3 ⟨rfl, hb⟩
      replace HX := hide (HX.out.kept hb)
      replace HB := hide (Bel.then HB.out hb)
      clear hb
      clear c0 c1 c2 H1
      generalize toldV _ = r at *
      obtain ⟨⟨c0, c1, c2⟩, ⟨y0, y1, y2⟩⟩ := HX.out.all
      have HS := hide (HX.out.set3 (r))
      have HBS := hide (below_setV HB.out (show w.heap.size ≤ w.heap.size + 1 by omega) (r))
      clear HX HB 
      unfold valAgg
      go_wp2_with fail
      exact end_v Try.results37 rfl rfl HS.out ⟨rfl, HBS.out⟩
    · have hv : oneR 3 a = nullV := by
        unfold oneR unV
        rw [if_pos (.inl rfl), if_neg (by decide), if_neg (by decide), if_neg hk]
      rw [hv]
      clear hv
      unfold valAgg at QF ⊢
      obtain ⟨k, n, s⟩ := a
      simp only at QF QG QM H1 HX HB hk ⊢
      have hk2 : (k == 2) = false := by simp [hk]
      clear hk
      obtain ⟨⟨d0, d1, d2⟩, ⟨y0, y1, y2⟩⟩ := HX.out.all
      have HS := hide (HX.out.set3 nullV)
      have HBS := hide (below_setV HB.out (show w.heap.size ≤ w.heap.size + 1 by omega) nullV)
      go_enter Try.func37, Try.ntmps37
      go_upto_region 1 with (fail)
      generalize (w.alloc (.cells #[.int .i64 k, .int .i64 n, .string s] 26)).alloc (.cells #[.int .i64 0, .int .i64 0, .string { data := #[] }] 26) = w1 at *
      obtain ⟨⟨c0, c1, c2⟩, _⟩ := H1.out.all
      clear H1
      clear HX HB 
      go_wp2_with fail
      exact end_v Try.results37 rfl rfl HS.out ⟨rfl, HBS.out⟩
  · have hv : oneR op a = nullV := by
      unfold oneR
      rw [if_neg (by omega)]
    rw [hv]
    clear hv
    have e1 : (op == 3) = false := by rw [beq_eq_false_iff_ne]; omega
    have e2 : (op == 4) = false := by rw [beq_eq_false_iff_ne]; omega
    have e3 : (op == 19) = false := by rw [beq_eq_false_iff_ne]; omega
    clear g1 g2 g3
    unfold valAgg at QF ⊢
    obtain ⟨k, n, s⟩ := a
    simp only at QF QG QM H1 HX HB ⊢
    obtain ⟨⟨d0, d1, d2⟩, ⟨y0, y1, y2⟩⟩ := HX.out.all
    have HS := hide (HX.out.set3 nullV)
    have HBS := hide (below_setV HB.out (show w.heap.size ≤ w.heap.size + 1 by omega) nullV)
    go_enter Try.func37, Try.ntmps37
    go_upto_region 1 with (fail)
    generalize (w.alloc (.cells #[.int .i64 k, .int .i64 n, .string s] 26)).alloc (.cells #[.int .i64 0, .int .i64 0, .string { data := #[] }] 26) = w1 at *
    obtain ⟨⟨c0, c1, c2⟩, _⟩ := H1.out.all
    clear H1
    clear HX HB 
    go_wp2_with fail
    exact end_v Try.results37 rfl rfl HS.out ⟨rfl, HBS.out⟩
end Go.Proofs.Ytlkeghfdpbfhbaa
