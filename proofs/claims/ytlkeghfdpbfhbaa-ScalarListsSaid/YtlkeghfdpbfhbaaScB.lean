/- The contracts of scalar's unary, text, arithmetic, binary. -/
import Derived.Test.YtlkeghfdpbfhbaaScA
import Derived.OwnWalk
namespace Go.Proofs.Ytlkeghfdpbfhbaa
set_option linter.unusedVariables false
open Go.ChangeShapes Go.WideShapes Go.ChangeAt Go.RowKit

set_option maxRecDepth 100000 in
set_option maxHeartbeats 2000000 in
theorem unary_c (op : Int) (a : ValV) (w : World) : Calls Try.prog 25 #[.int .i64 op, valAgg a] w (GivesV w (unV op a)) := by
  obtain ⟨h1, h2, h3⟩ := vb_two w a.kind a.num a.str
  have H1 := hide h1
  have HX := hide h2
  have HB := hide h3
  have QB := hide (fun q W => boolv_c q W)
  have QF := hide (fun W => fromv_c a W)
  have QN := hide (fun (x : Int) W => not12 x W)
  have QV := hide (fun (x : Int) W => triv_c x W)
  have QG := hide (fun W => neg_c a.num W)
  have QM := hide (fun W => number_c (negP a.num) W)
  clear h1 h2 h3
  unfold unV
  unfold valAgg at QF ⊢
  obtain ⟨k, n, s⟩ := a
  simp only at QF QG QM H1 HX HB ⊢
  generalize frV ⟨k, n, s⟩ = f at *
  generalize negP n = p at *
  by_cases h19 : op = 19
  · subst h19
    rw [if_pos rfl]
    go_enter Try.func25, Try.ntmps25
    go_upto_region 1 with (fail)
    generalize (w.alloc (.cells #[.int .i64 k, .int .i64 n, .string s] 26)).alloc (.cells #[.int .i64 0, .int .i64 0, .string { data := #[] }] 26) = w1 at *
    obtain ⟨⟨c0, c1, c2⟩, _⟩ := H1.out.all
    go_wp2_with fail
    refine (QB.out _ _).mono ?_
    rintro e w2 ⟨rfl, hb⟩
    replace HX := hide (HX.out.kept hb)
    replace HB := hide (Bel.then HB.out hb)
    clear hb
    clear c0 c1 c2 H1
    generalize boolV _ = r at *
    unfold valAgg
    obtain ⟨⟨c0, c1, c2⟩, ⟨y0, y1, y2⟩⟩ := HX.out.all
    have HS := hide (HX.out.set3 (r))
    have HBS := hide (below_setV HB.out (show w.heap.size ≤ w.heap.size + 1 by omega) (r))
    clear HX HB 
    go_wp2_with fail
    exact end_v Try.results25 rfl rfl HS.out ⟨rfl, HBS.out⟩
  rw [if_neg h19]
  have e19 : (op == 19) = false := by simpa using h19
  clear h19
  by_cases h4 : op = 4
  · subst h4
    rw [if_pos rfl]
    go_enter Try.func25, Try.ntmps25
    go_upto_region 1 with (fail)
    generalize (w.alloc (.cells #[.int .i64 k, .int .i64 n, .string s] 26)).alloc (.cells #[.int .i64 0, .int .i64 0, .string { data := #[] }] 26) = w1 at *
    obtain ⟨⟨c0, c1, c2⟩, _⟩ := H1.out.all
    go_wp2_with fail
    refine (QF.out _).mono ?_
    rintro e w2 ⟨rfl, hb⟩
    replace HX := hide (HX.out.kept hb)
    replace HB := hide (Bel.then HB.out hb)
    clear hb
    clear c0 c1 c2 H1
    go_wp2_with fail
    refine (QN.out _ _).mono ?_
    rintro e w3 ⟨rfl, rfl⟩
    go_wp2_with fail
    refine (QV.out _ _).mono ?_
    rintro e w4 ⟨rfl, hb⟩
    replace HX := hide (HX.out.kept hb)
    replace HB := hide (Bel.then HB.out hb)
    clear hb
    generalize trV _ = r at *
    unfold valAgg
    obtain ⟨⟨c0, c1, c2⟩, ⟨y0, y1, y2⟩⟩ := HX.out.all
    have HS := hide (HX.out.set3 (r))
    have HBS := hide (below_setV HB.out (show w.heap.size ≤ w.heap.size + 1 by omega) (r))
    clear HX HB 
    go_wp2_with fail
    exact end_v Try.results25 rfl rfl HS.out ⟨rfl, HBS.out⟩
  rw [if_neg h4]
  have e4 : (op == 4) = false := by simpa using h4
  clear h4
  by_cases h2 : k = 2
  · rw [if_pos h2]
    have e2 : (k != 2) = false := by simp [h2]
    clear h2
    go_enter Try.func25, Try.ntmps25
    go_upto_region 1 with (fail)
    generalize (w.alloc (.cells #[.int .i64 k, .int .i64 n, .string s] 26)).alloc (.cells #[.int .i64 0, .int .i64 0, .string { data := #[] }] 26) = w1 at *
    obtain ⟨⟨c0, c1, c2⟩, _⟩ := H1.out.all
    go_wp2_with fail
    refine (QG.out _).mono ?_
    rintro e w2 ⟨rfl, rfl⟩
    go_wp2_with fail
    refine (QM.out _).mono ?_
    rintro e w3 ⟨rfl, hb⟩
    replace HX := hide (HX.out.kept hb)
    replace HB := hide (Bel.then HB.out hb)
    clear hb
    clear c0 c1 c2 H1
    generalize toldV _ = r at *
    unfold valAgg
    obtain ⟨⟨c0, c1, c2⟩, ⟨y0, y1, y2⟩⟩ := HX.out.all
    have HS := hide (HX.out.set3 (r))
    have HBS := hide (below_setV HB.out (show w.heap.size ≤ w.heap.size + 1 by omega) (r))
    clear HX HB 
    go_wp2_with fail
    exact end_v Try.results25 rfl rfl HS.out ⟨rfl, HBS.out⟩
  · rw [if_neg h2]
    have e2 : (k != 2) = true := by simp [h2]
    clear h2
    obtain ⟨⟨d0, d1, d2⟩, ⟨y0, y1, y2⟩⟩ := HX.out.all
    have HS := hide (HX.out.set3 nullV)
    have HBS := hide (below_setV HB.out (show w.heap.size ≤ w.heap.size + 1 by omega) nullV)
    go_enter Try.func25, Try.ntmps25
    go_upto_region 1 with (fail)
    generalize (w.alloc (.cells #[.int .i64 k, .int .i64 n, .string s] 26)).alloc (.cells #[.int .i64 0, .int .i64 0, .string { data := #[] }] 26) = w1 at *
    obtain ⟨⟨c0, c1, c2⟩, _⟩ := H1.out.all
    clear HX HB H1
    go_wp2_with fail
    exact end_v Try.results25 rfl rfl HS.out ⟨rfl, HBS.out⟩
set_option maxRecDepth 100000 in
set_option maxHeartbeats 2000000 in
theorem text_c (op : Int) (a b : ByteArray) (w : World) (ha : a.size ≤ 1048576) (hb : b.size ≤ 1048576) : Calls Try.prog 49 #[.int .i64 op, .string a, .string b] w (GivesV w (txV op a b)) := by
  have HX := hide (vb_one w)
  have HB := hide (Bel.one w zO)
  have QB := hide (fun q W => boolv_c q W)
  have QM := hide (fun W => match_c a b W ha hb)
  have QS := hide (fun W => strv_c (a ++ b) W)
  unfold txV
  by_cases h20 : op = 20
  · subst h20
    rw [if_pos rfl]
    generalize matchB a b = q at *
    go_enter Try.func49, Try.ntmps49
    go_upto_region 1 with (fail)
    generalize w.alloc (.cells #[.int .i64 0, .int .i64 0, .string { data := #[] }] 26) = w1 at *
    go_wp2_with fail
    refine (QM.out _).mono ?_
    rintro e w2 ⟨rfl, hb⟩
    replace HX := hide (HX.out.kept hb)
    replace HB := hide (Bel.then HB.out hb)
    clear hb
    go_wp2_with fail
    refine (QB.out _ _).mono ?_
    rintro e w3 ⟨rfl, hb⟩
    replace HX := hide (HX.out.kept hb)
    replace HB := hide (Bel.then HB.out hb)
    clear hb
    generalize boolV _ = r at *
    unfold valAgg
    obtain ⟨⟨c0, c1, c2⟩, ⟨y0, y1, y2⟩⟩ := HX.out.all
    have HS := hide (HX.out.set3 (r))
    have HBS := hide (below_setV HB.out (Nat.le_refl _) (r))
    clear HX HB 
    go_wp2_with fail
    exact end_v Try.results49 rfl rfl HS.out ⟨rfl, HBS.out⟩
  rw [if_neg h20]
  have e20 : (op == 20) = false := by simpa using h20
  clear h20
  have f1 : IntKind.i64.wrap ((a.size : Int) + (b.size : Int)) = ((a.size + b.size : Nat) : Int) := by rw [IntWalk.i64_in _ (by omega)]; omega
  by_cases h100 : 100 < a.size + b.size
  · rw [if_pos h100]
    have e100 : (100 : Int) < ((a.size : Int) + (b.size : Int)) := by omega
    obtain ⟨⟨d0, d1, d2⟩, ⟨y0, y1, y2⟩⟩ := HX.out.all
    have HS := hide (HX.out.set3 nullV)
    have HBS := hide (below_setV HB.out (Nat.le_refl _) nullV)
    clear HX HB h100
    go_enter Try.func49, Try.ntmps49
    go_upto_region 1 with (fail)
    generalize w.alloc (.cells #[.int .i64 0, .int .i64 0, .string { data := #[] }] 26) = w1 at *
    go_wp2_with fail
    exact end_v Try.results49 rfl rfl HS.out ⟨rfl, HBS.out⟩
  · rw [if_neg h100]
    have e100 : ¬ (100 : Int) < ((a.size : Int) + (b.size : Int)) := by omega
    have hao : (a.size : Int) ≤ 100 := by omega
    have hbo : (b.size : Int) ≤ 100 := by omega
    clear h100
    go_enter Try.func49, Try.ntmps49
    go_upto_region 1 with (fail)
    generalize w.alloc (.cells #[.int .i64 0, .int .i64 0, .string { data := #[] }] 26) = w1 at *
    go_wp2_with fail
    refine (QS.out _).mono ?_
    rintro e w2 ⟨rfl, hb⟩
    replace HX := hide (HX.out.kept hb)
    replace HB := hide (Bel.then HB.out hb)
    clear hb
    generalize strV _ = r at *
    unfold valAgg
    obtain ⟨⟨c0, c1, c2⟩, ⟨y0, y1, y2⟩⟩ := HX.out.all
    have HS := hide (HX.out.set3 (r))
    have HBS := hide (below_setV HB.out (Nat.le_refl _) (r))
    clear HX HB 
    go_wp2_with fail
    exact end_v Try.results49 rfl rfl HS.out ⟨rfl, HBS.out⟩
set_option maxRecDepth 100000 in
set_option maxHeartbeats 2000000 in
theorem arith_c (op a b : Int) (w : World) : Calls Try.prog 50 #[.int .i64 op, .int .i64 a, .int .i64 b] w (GivesV w (toldV (arP op a b))) := by
  have HX := hide (vb_one w)
  have HB := hide (Bel.one w zO)
  have Q1 := hide (fun W => add_c a b W)
  have Q2 := hide (fun W => sub_c a b W)
  have Q3 := hide (fun W => mul_c a b W)
  have Q4 := hide (fun W => div_c a b W)
  have Q5 := hide (fun W => mod_c a b W)
  have QM := hide (fun p W => number_c p W)
  unfold arP
  by_cases h5 : op = 5
  · subst h5
    rw [if_pos rfl]
    generalize addP a b = p at *
    go_enter Try.func50, Try.ntmps50
    go_upto_region 1 with (fail)
    generalize w.alloc (.cells #[.int .i64 0, .int .i64 0, .string { data := #[] }] 26) = w1 at *
    go_wp2_with fail
    refine (Q1.out _).mono ?_
    rintro e w2 ⟨rfl, rfl⟩
    go_wp2_with fail
    refine (QM.out _ _).mono ?_
    rintro e w3 ⟨rfl, hb⟩
    replace HX := hide (HX.out.kept hb)
    replace HB := hide (Bel.then HB.out hb)
    clear hb
    generalize toldV _ = r at *
    unfold valAgg
    obtain ⟨⟨c0, c1, c2⟩, ⟨y0, y1, y2⟩⟩ := HX.out.all
    have HS := hide (HX.out.set3 (r))
    have HBS := hide (below_setV HB.out (Nat.le_refl _) (r))
    clear HX HB 
    go_wp2_with fail
    exact end_v Try.results50 rfl rfl HS.out ⟨rfl, HBS.out⟩
  have e5 : (op == 5) = false := by simpa using h5
  by_cases h6 : op = 6
  · subst h6
    rw [if_neg (by decide), if_pos rfl]
    generalize subP a b = p at *
    go_enter Try.func50, Try.ntmps50
    go_upto_region 1 with (fail)
    generalize w.alloc (.cells #[.int .i64 0, .int .i64 0, .string { data := #[] }] 26) = w1 at *
    go_wp2_with fail
    refine (Q2.out _).mono ?_
    rintro e w2 ⟨rfl, rfl⟩
    go_wp2_with fail
    refine (QM.out _ _).mono ?_
    rintro e w3 ⟨rfl, hb⟩
    replace HX := hide (HX.out.kept hb)
    replace HB := hide (Bel.then HB.out hb)
    clear hb
    generalize toldV _ = r at *
    unfold valAgg
    obtain ⟨⟨c0, c1, c2⟩, ⟨y0, y1, y2⟩⟩ := HX.out.all
    have HS := hide (HX.out.set3 (r))
    have HBS := hide (below_setV HB.out (Nat.le_refl _) (r))
    clear HX HB 
    go_wp2_with fail
    exact end_v Try.results50 rfl rfl HS.out ⟨rfl, HBS.out⟩
  have e6 : (op == 6) = false := by simpa using h6
  by_cases h7 : op = 7
  · subst h7
    rw [if_neg (by decide), if_neg (by decide), if_pos rfl]
    generalize mulP a b = p at *
    go_enter Try.func50, Try.ntmps50
    go_upto_region 1 with (fail)
    generalize w.alloc (.cells #[.int .i64 0, .int .i64 0, .string { data := #[] }] 26) = w1 at *
    go_wp2_with fail
    refine (Q3.out _).mono ?_
    rintro e w2 ⟨rfl, rfl⟩
    go_wp2_with fail
    refine (QM.out _ _).mono ?_
    rintro e w3 ⟨rfl, hb⟩
    replace HX := hide (HX.out.kept hb)
    replace HB := hide (Bel.then HB.out hb)
    clear hb
    generalize toldV _ = r at *
    unfold valAgg
    obtain ⟨⟨c0, c1, c2⟩, ⟨y0, y1, y2⟩⟩ := HX.out.all
    have HS := hide (HX.out.set3 (r))
    have HBS := hide (below_setV HB.out (Nat.le_refl _) (r))
    clear HX HB 
    go_wp2_with fail
    exact end_v Try.results50 rfl rfl HS.out ⟨rfl, HBS.out⟩
  have e7 : (op == 7) = false := by simpa using h7
  by_cases h8 : op = 8
  · subst h8
    rw [if_neg (by decide), if_neg (by decide), if_neg (by decide), if_pos rfl]
    generalize divP a b = p at *
    go_enter Try.func50, Try.ntmps50
    go_upto_region 1 with (fail)
    generalize w.alloc (.cells #[.int .i64 0, .int .i64 0, .string { data := #[] }] 26) = w1 at *
    go_wp2_with fail
    refine (Q4.out _).mono ?_
    rintro e w2 ⟨rfl, rfl⟩
    go_wp2_with fail
    refine (QM.out _ _).mono ?_
    rintro e w3 ⟨rfl, hb⟩
    replace HX := hide (HX.out.kept hb)
    replace HB := hide (Bel.then HB.out hb)
    clear hb
    generalize toldV _ = r at *
    unfold valAgg
    obtain ⟨⟨c0, c1, c2⟩, ⟨y0, y1, y2⟩⟩ := HX.out.all
    have HS := hide (HX.out.set3 (r))
    have HBS := hide (below_setV HB.out (Nat.le_refl _) (r))
    clear HX HB 
    go_wp2_with fail
    exact end_v Try.results50 rfl rfl HS.out ⟨rfl, HBS.out⟩
  have e8 : (op == 8) = false := by simpa using h8
  rw [if_neg h5, if_neg h6, if_neg h7, if_neg h8]
  clear h5 h6 h7 h8
  generalize modP a b = p at *
  go_enter Try.func50, Try.ntmps50
  go_upto_region 1 with (fail)
  generalize w.alloc (.cells #[.int .i64 0, .int .i64 0, .string { data := #[] }] 26) = w1 at *
  go_wp2_with fail
  refine (Q5.out _).mono ?_
  rintro e w2 ⟨rfl, rfl⟩
  go_wp2_with fail
  refine (QM.out _ _).mono ?_
  rintro e w3 ⟨rfl, hb⟩
  replace HX := hide (HX.out.kept hb)
  replace HB := hide (Bel.then HB.out hb)
  clear hb
  generalize toldV _ = r at *
  unfold valAgg
  obtain ⟨⟨c0, c1, c2⟩, ⟨y0, y1, y2⟩⟩ := HX.out.all
  have HS := hide (HX.out.set3 (r))
  have HBS := hide (below_setV HB.out (Nat.le_refl _) (r))
  clear HX HB 
  go_wp2_with fail
  exact end_v Try.results50 rfl rfl HS.out ⟨rfl, HBS.out⟩
end Go.Proofs.Ytlkeghfdpbfhbaa
