/- Pages of the reference: SetLsn, SetLink. -/
import Derived.Test.YtfdedkcidemimaaDoorPrF
namespace Go.Proofs.YtfdedkcidemimaaDoor
set_option linter.unusedVariables false
set_option linter.unusedSimpArgs false
open Go.ChangeShapes Go.WideShapes Go.ChangeAt Go.RowKit

theorem PBx.set0 {w : World} {g : Nat} {x y z : Int} {v : Value} (h : PBx w g x y z v) (n : Int) : PBx (w.setCell ⟨g, 0, none⟩ (.int .i64 n)) g n y z v := by
  unfold PBx at *
  simp [World.setCell, Array.getElem?_modify, h]
theorem PBx.set2 {w : World} {g : Nat} {x y z : Int} {v : Value} (h : PBx w g x y z v) (n : Int) : PBx (w.setCell ⟨g, 2, none⟩ (.int .i64 n)) g x y n v := by
  unfold PBx at *
  simp [World.setCell, Array.getElem?_modify, h]
set_option maxRecDepth 100000 in
theorem rsetLsn_c (p : ByteArray) (n : Int) (hm : p.size ≤ 4000) (w : World) : Calls Tryd.prog 33 #[.string p, .int .i64 n] w fun e w' => e = .returned (.string (setLsnS p n)) ∧ Below w.heap.size w w' := by
  have Q := hide (fun W => parts_c p hm W)
  unfold GivesP at Q
  cases hr : rightB p with
  | false =>
    have hv : setLsnS p n = ⟨#[]⟩ := by unfold setLsnS; rw [if_neg (by rw [hr]; simp)]
    rw [hv]
    rw [hr] at Q
    clear hv hr
    go_enter Tryd.func33, Tryd.ntmps33
    go_wp2_with fail
    refine (Q.out _).mono ?_
    rintro e w2 ⟨x, y, z, A, m, cp, rfl, hb, _⟩
    go_wp2_with fail
    go_ret
    exact ⟨rfl, hb.alloc hb.size _⟩
  | true =>
    rw [hr] at Q
    by_cases h0 : n < 0
    · have hv : setLsnS p n = ⟨#[]⟩ := by unfold setLsnS; rw [if_neg (by omega)]
      rw [hv]
      clear hv hr
      go_enter Tryd.func33, Tryd.ntmps33
      go_wp2_with fail
      refine (Q.out _).mono ?_
      rintro e w2 ⟨x, y, z, A, m, cp, rfl, hb, _⟩
      go_wp2_with fail
      go_ret
      exact ⟨rfl, hb.alloc hb.size _⟩
    · by_cases h1 : 281474976710655 < n
      · have hv : setLsnS p n = ⟨#[]⟩ := by unfold setLsnS; rw [if_neg (by omega)]
        rw [hv]
        clear hv hr
        go_enter Tryd.func33, Tryd.ntmps33
        go_wp2_with fail
        refine (Q.out _).mono ?_
        rintro e w2 ⟨x, y, z, A, m, cp, rfl, hb, _⟩
        go_wp2_with fail
        go_ret
        exact ⟨rfl, hb.alloc hb.size _⟩
      · have R := (rightP_iff p).mp hr
        have hv := with_lsn R (n := n) (by omega) (by omega)
        rw [← hv]
        have hkd := readC_kind p
        have hsz : sizeN (readC p).recs ≤ 1048576 := by have := readC_fits R; omega
        clear hr R hv
        generalize readC p = C at *
        obtain ⟨x, y, z, l⟩ := C
        dsimp only at *
        have QL := hide (fun A c W hW => rlay_c n y z A l.length c l W hW hsz hkd)
        generalize layR ⟨n, y, z, l⟩ = V at *
        go_enter Tryd.func33, Tryd.ntmps33
        go_wp2_with fail
        refine (Q.out _).mono ?_
        rintro e w2 ⟨x', y', z', A, n', cp, rfl, hb, hall⟩
        obtain ⟨hx1, hx2, hx3, hx4, hown⟩ := hall (by trivial)
        subst x' y' z' n'
        have HG2 := hide (pbx_new w2 x y z (.slice A l.length cp))
        have HB2 := hide (hb.alloc hb.size (.cells #[.int .i64 x, .int .i64 y, .int .i64 z, .slice A l.length cp] 46))
        have HO2 := hide (hown.kept (Bel.one w2 (.cells #[.int .i64 x, .int .i64 y, .int .i64 z, .slice A l.length cp] 46)))
        have hg := hb.size
        clear hb hown hall Q
        go_upto_region 4 with (fail)
        generalize w2.alloc (.cells #[.int .i64 x, .int .i64 y, .int .i64 z, .slice A l.length cp] 46) = w3 at *
        generalize w2.heap.size = g2 at *
        obtain ⟨c0, c1, c2, c3, f0, f1, f2, f3⟩ := HG2.out.cells
        have HG3 := hide (HG2.out.set0 n)
        have HB3 := hide (HB2.out.setCell (p := ⟨g2, 0, none⟩) hg (.int .i64 n))
        have HO3 := hide (HO2.out.pfar (p := ⟨g2, 0, none⟩) HG2.out (.int .i64 n))
        go_upto_region 5 with (fail)
        clear c0 c1 c2 c3 f0 f1 f2 f3
        generalize w3.setCell ⟨g2, 0, none⟩ (.int .i64 n) = w4 at *
        obtain ⟨c0, c1, c2, c3, f0, f1, f2, f3⟩ := HG3.out.cells
        obtain ⟨A', c', e, hsl⟩ := HO3.out.sl
        injection e with e1 e2 e3
        subst e1 e3
        clear e2
        have HSL := hide hsl
        clear hsl
        go_wp2_with fail
        refine (QL.out _ _ _ HSL.out).mono ?_
        rintro e w5 ⟨rfl, hb⟩
        replace HB3 := hide (Bel.then HB3.out hb)
        clear hb
        go_wp2_with fail
        go_ret
        exact ⟨rfl, HB3.out⟩
set_option maxRecDepth 100000 in
theorem rsetLink_c (p : ByteArray) (n : Int) (hm : p.size ≤ 4000) (w : World) : Calls Tryd.prog 35 #[.string p, .int .i64 n] w fun e w' => e = .returned (.string (setLinkS p n)) ∧ Below w.heap.size w w' := by
  have Q := hide (fun W => parts_c p hm W)
  unfold GivesP at Q
  cases hr : rightB p with
  | false =>
    have hv : setLinkS p n = ⟨#[]⟩ := by unfold setLinkS; rw [if_neg (by rw [hr]; simp)]
    rw [hv]
    rw [hr] at Q
    clear hv hr
    go_enter Tryd.func35, Tryd.ntmps35
    go_wp2_with fail
    refine (Q.out _).mono ?_
    rintro e w2 ⟨x, y, z, A, m, cp, rfl, hb, _⟩
    go_wp2_with fail
    go_ret
    exact ⟨rfl, hb.alloc hb.size _⟩
  | true =>
    rw [hr] at Q
    by_cases h0 : n < 0
    · have hv : setLinkS p n = ⟨#[]⟩ := by unfold setLinkS; rw [if_neg (by omega)]
      rw [hv]
      clear hv hr
      go_enter Tryd.func35, Tryd.ntmps35
      go_wp2_with fail
      refine (Q.out _).mono ?_
      rintro e w2 ⟨x, y, z, A, m, cp, rfl, hb, _⟩
      go_wp2_with fail
      go_ret
      exact ⟨rfl, hb.alloc hb.size _⟩
    · by_cases h1 : 16777215 < n
      · have hv : setLinkS p n = ⟨#[]⟩ := by unfold setLinkS; rw [if_neg (by omega)]
        rw [hv]
        clear hv hr
        go_enter Tryd.func35, Tryd.ntmps35
        go_wp2_with fail
        refine (Q.out _).mono ?_
        rintro e w2 ⟨x, y, z, A, m, cp, rfl, hb, _⟩
        go_wp2_with fail
        go_ret
        exact ⟨rfl, hb.alloc hb.size _⟩
      · have R := (rightP_iff p).mp hr
        have hv := with_link R (n := n) (by omega) (by omega)
        rw [← hv]
        have hkd := readC_kind p
        have hsz : sizeN (readC p).recs ≤ 1048576 := by have := readC_fits R; omega
        clear hr R hv
        generalize readC p = C at *
        obtain ⟨x, y, z, l⟩ := C
        dsimp only at *
        have QL := hide (fun A c W hW => rlay_c x y n A l.length c l W hW hsz hkd)
        generalize layR ⟨x, y, n, l⟩ = V at *
        go_enter Tryd.func35, Tryd.ntmps35
        go_wp2_with fail
        refine (Q.out _).mono ?_
        rintro e w2 ⟨x', y', z', A, n', cp, rfl, hb, hall⟩
        obtain ⟨hx1, hx2, hx3, hx4, hown⟩ := hall (by trivial)
        subst x' y' z' n'
        have HG2 := hide (pbx_new w2 x y z (.slice A l.length cp))
        have HB2 := hide (hb.alloc hb.size (.cells #[.int .i64 x, .int .i64 y, .int .i64 z, .slice A l.length cp] 46))
        have HO2 := hide (hown.kept (Bel.one w2 (.cells #[.int .i64 x, .int .i64 y, .int .i64 z, .slice A l.length cp] 46)))
        have hg := hb.size
        clear hb hown hall Q
        go_upto_region 4 with (fail)
        generalize w2.alloc (.cells #[.int .i64 x, .int .i64 y, .int .i64 z, .slice A l.length cp] 46) = w3 at *
        generalize w2.heap.size = g2 at *
        obtain ⟨c0, c1, c2, c3, f0, f1, f2, f3⟩ := HG2.out.cells
        have HG3 := hide (HG2.out.set2 n)
        have HB3 := hide (HB2.out.setCell (p := ⟨g2, 2, none⟩) hg (.int .i64 n))
        have HO3 := hide (HO2.out.pfar (p := ⟨g2, 2, none⟩) HG2.out (.int .i64 n))
        go_upto_region 5 with (fail)
        clear c0 c1 c2 c3 f0 f1 f2 f3
        generalize w3.setCell ⟨g2, 2, none⟩ (.int .i64 n) = w4 at *
        obtain ⟨c0, c1, c2, c3, f0, f1, f2, f3⟩ := HG3.out.cells
        obtain ⟨A', c', e, hsl⟩ := HO3.out.sl
        injection e with e1 e2 e3
        subst e1 e3
        clear e2
        have HSL := hide hsl
        clear hsl
        go_wp2_with fail
        refine (QL.out _ _ _ HSL.out).mono ?_
        rintro e w5 ⟨rfl, hb⟩
        replace HB3 := hide (Bel.then HB3.out hb)
        clear hb
        go_wp2_with fail
        go_ret
        exact ⟨rfl, HB3.out⟩
end Go.Proofs.YtfdedkcidemimaaDoor
