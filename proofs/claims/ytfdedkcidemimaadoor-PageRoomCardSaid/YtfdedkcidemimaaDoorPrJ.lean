/- Pages of the reference: Put, Set, Cut. -/
import Derived.Test.YtfdedkcidemimaaDoorPmG
import Derived.Test.YtfdedkcidemimaaDoorPrG
namespace Go.Proofs.YtfdedkcidemimaaDoor
set_option linter.unusedVariables false
set_option linter.unusedSimpArgs false
open Go.ChangeShapes Go.WideShapes Go.ChangeAt Go.RowKit

set_option maxRecDepth 100000 in
theorem rputpage_c (p : ByteArray) (s : Int) (r : ByteArray) (hm : p.size ≤ 4000) (hmr : r.size ≤ 4000) (w : World) : Calls Tryd.prog 37 #[.string p, .int .i64 s, .string r] w fun e w' => e = .returned (.tuple #[.string (putS p s r).1, .int .i64 (putS p s r).2]) ∧ Below w.heap.size w w' := by
  have Q := hide (fun W => parts_c p hm W)
  unfold GivesP at Q
  have QI := hide (fun W => rmay_c r hmr W)
  have QG := hide (fun W => rgetpage_c p s hm W)
  cases hr : rightB p with
  | false =>
    rw [hr] at Q
    generalize getS p s = g at QG
    have hv : putS p s r = (⟨#[]⟩, 1) := by
      unfold putS
      rw [hr]
      rfl
    rw [hv]
    clear hv hr
    go_enter Tryd.func37, Tryd.ntmps37
    go_wp2_with fail
    refine (Q.out _).mono ?_
    rintro e w2 ⟨x, y, z, A, n, cp, rfl, hb, hall⟩
    clear hall
    have HB := hide (hb.alloc hb.size (.cells #[.int .i64 x, .int .i64 y, .int .i64 z, .slice A n cp] 46))
    clear hb
    go_wp2_with fail
    refine (QG.out _).mono ?_
    rintro e w4 ⟨rfl, hb⟩
    replace HB := hide (Bel.then HB.out hb)
    clear hb
    go_wp2_with fail
    go_ret2
    exact ⟨rfl, HB.out⟩
  | true =>
    rw [hr] at Q
    by_cases hs0 : s < 0
    · have hv : putS p s r = (⟨#[]⟩, 1) := by unfold putS; rw [if_neg (by omega)]
      rw [hv]
      generalize getS p s = g at QG
      clear hv hr
      go_enter Tryd.func37, Tryd.ntmps37
      go_wp2_with fail
      refine (Q.out _).mono ?_
      rintro e w2 ⟨x, y, z, A, n, cp, rfl, hb, hall⟩
      clear hall
      have HB := hide (hb.alloc hb.size (.cells #[.int .i64 x, .int .i64 y, .int .i64 z, .slice A n cp] 46))
      clear hb
      go_wp2_with fail
      refine (QG.out _).mono ?_
      rintro e w4 ⟨rfl, hb⟩
      replace HB := hide (Bel.then HB.out hb)
      clear hb
      go_wp2_with fail
      go_ret2
      exact ⟨rfl, HB.out⟩
    · cases hg : (getS p s).2 with
      | true =>
        have hv : putS p s r = (⟨#[]⟩, 1) := by
          unfold putS
          by_cases hi : isRec r = true
          · rw [if_pos ⟨hr, by omega, hi⟩, if_pos hg]
          · rw [if_neg (fun h => hi h.2.2)]
        rw [hv]
        generalize getS p s = g at *
        obtain ⟨g1, g2⟩ := g
        dsimp only at hg
        subst hg
        clear hv hr
        go_enter Tryd.func37, Tryd.ntmps37
        go_wp2_with fail
        refine (Q.out _).mono ?_
        rintro e w2 ⟨x, y, z, A, n, cp, rfl, hb, hall⟩
        clear hall
        have HB := hide (hb.alloc hb.size (.cells #[.int .i64 x, .int .i64 y, .int .i64 z, .slice A n cp] 46))
        clear hb
        go_wp2_with fail
        refine (QG.out _).mono ?_
        rintro e w4 ⟨rfl, hb⟩
        replace HB := hide (Bel.then HB.out hb)
        clear hb
        go_wp2_with fail
        go_ret2
        exact ⟨rfl, HB.out⟩
      | false =>
        cases hi : isRec r with
        | false =>
          have hv : putS p s r = (⟨#[]⟩, 1) := by
            unfold putS
            rw [hi]
            simp
          rw [hv]
          rw [hi] at QI
          clear hi
          generalize getS p s = g at *
          obtain ⟨g1, g2⟩ := g
          dsimp only at hg
          subst hg
          clear hv hr
          go_enter Tryd.func37, Tryd.ntmps37
          go_wp2_with fail
          refine (Q.out _).mono ?_
          rintro e w2 ⟨x, y, z, A, n, cp, rfl, hb, hall⟩
          clear hall
          have HB := hide (hb.alloc hb.size (.cells #[.int .i64 x, .int .i64 y, .int .i64 z, .slice A n cp] 46))
          clear hb
          go_wp2_with fail
          refine (QG.out _).mono ?_
          rintro e w4 ⟨rfl, hb⟩
          replace HB := hide (Bel.then HB.out hb)
          clear hb
          go_wp2_with fail
          refine (QI.out _).mono ?_
          rintro e w5 ⟨rfl, rfl⟩
          go_wp2_with fail
          go_ret2
          exact ⟨rfl, HB.out⟩
        | true =>
          rw [hi] at QI
          by_cases h512 : 512 < s
          · have hv := put_far ((rightP_iff p).mp hr) (by omega) hi hg h512
            rw [hv]
            obtain ⟨k, rfl⟩ : ∃ k : Nat, s = k := ⟨s.toNat, by omega⟩
            have QW := hide (fun A n c W => rwith_no A n c k r (by omega) W)
            generalize getS p (k : Int) = g at *
            obtain ⟨g1, g2⟩ := g
            dsimp only at hg
            subst hg
            clear hv hi
            generalize readC p = C at *
            obtain ⟨x, y, z, l⟩ := C
            dsimp only at *
            clear hr
            go_enter Tryd.func37, Tryd.ntmps37
            go_wp2_with fail
            refine (Q.out _).mono ?_
            rintro e w2 ⟨x', y', z', A, n', cp, rfl, hb, hall⟩
            obtain ⟨hx1, hx2, hx3, hx4, hown⟩ := hall (by trivial)
            subst x' y' z' n'
            have HS := hide (PtS.new (w := w) (c := ⟨x, y, z, l⟩) hown hb)
            clear hb hown hall Q
            go_upto_region 2 with (fail)
            try dsimp only at HS
            generalize w2.alloc (.cells #[.int .i64 x, .int .i64 y, .int .i64 z, .slice A l.length cp] 46) = w3 at *
            generalize w2.heap.size = gx at *
            go_wp2_with fail
            refine (QG.out _).mono ?_
            rintro e w4 ⟨rfl, hb⟩
            replace HS := hide (HS.out.kept hb)
            clear hb
            go_wp2_with fail
            refine (QI.out _).mono ?_
            rintro e w5 ⟨rfl, rfl⟩
            go_upto_region 5 with (fail)
            obtain ⟨c0, c1, c2, c3, f0, f1, f2, f3⟩ := HS.out.bx.cells
            dsimp only at c0 c1 c2 c3
            go_wp2_with fail
            refine (QW.out _ _ _ _).mono ?_
            rintro e w6 ⟨rfl, rfl⟩
            go_wp2_with fail
            go_ret2
            exact ⟨rfl, HS.out.hb⟩
          · have R := (rightP_iff p).mp hr
            obtain ⟨k, rfl⟩ : ∃ k : Nat, s = k := ⟨s.toNat, by omega⟩
            have hv := putp_same R (by omega) hi hg (by omega)
            rw [Int.toNat_natCast] at hv
            rw [← hv]
            have hlen := readC_len p
            have hn5 : (readC p).recs.length ≤ 123 := by rw [hlen]; have := R.gap; have := R.beg; omega
            have hsz : sizeN (setP (readC p).recs k r) ≤ 1048576 := by have h1 := readC_size R; have h2 := sumS_set ((readC p).recs ++ List.replicate (k + 1 - (readC p).recs.length) (⟨#[]⟩ : ByteArray)) k r; rw [sumS_pad] at h2; have h3 := setP_len (readC p).recs k r; unfold sizeN at h1 ⊢; rw [h3]; unfold setP; omega
            have hkd := readC_kind p
            clear hv
            generalize readC p = C at *
            obtain ⟨x, y, z, l⟩ := C
            dsimp only at *
            have QL := hide (fun A n c W hW => rlaid_c x y z A n c (setP l k r) W hW hsz hkd)
            obtain ⟨M, hM⟩ : ∃ M, laidR ⟨x, y, z, setP l k r⟩ = M := ⟨_, rfl⟩
            have hM2 : laidR (withR ⟨x, y, z, l⟩ (setP l k r)) = M := hM
            rw [hM2]
            rw [hM] at QL
            have QW := hide (fun A c W h => rwith_c A l.length c l k r W h (by omega) (by omega))
            clear hr hi hM hM2 hsz hlen
            generalize getS p (k : Int) = g at *
            obtain ⟨g1, g2⟩ := g
            dsimp only at hg
            subst hg
            go_enter Tryd.func37, Tryd.ntmps37
            go_wp2_with fail
            refine (Q.out _).mono ?_
            rintro e w2 ⟨x', y', z', A, n', cp, rfl, hb, hall⟩
            obtain ⟨hx1, hx2, hx3, hx4, hown⟩ := hall (by trivial)
            subst x' y' z' n'
            have HS := hide (PtS.new (w := w) (c := ⟨x, y, z, l⟩) hown hb)
            clear hb hown hall Q
            go_upto_region 2 with (fail)
            try dsimp only at HS
            generalize w2.alloc (.cells #[.int .i64 x, .int .i64 y, .int .i64 z, .slice A l.length cp] 46) = w3 at *
            generalize w2.heap.size = gx at *
            go_wp2_with fail
            refine (QG.out _).mono ?_
            rintro e w4 ⟨rfl, hb⟩
            replace HS := hide (HS.out.kept hb)
            clear hb
            go_wp2_with fail
            refine (QI.out _).mono ?_
            rintro e w5 ⟨rfl, rfl⟩
            go_upto_region 5 with (fail)
            obtain ⟨c0, c1, c2, c3, f0, f1, f2, f3⟩ := HS.out.bx.cells
            dsimp only at c0 c1 c2 c3
            go_wp2_with fail
            refine (QW.out _ _ _ HS.out.sl).mono ?_
            rintro e w6 ⟨v, rfl, hown, hb⟩
            obtain ⟨A5, c5, rfl, _⟩ := hown.sl
            have hst := HS.out.renew hb hown
            have HS2 := hide hst.2
            clear c0 c1 c2 c3 f0 f1 f2 f3
            obtain ⟨c0, c1, c2, c3, f0, f1, f2, f3⟩ := hst.1.cells
            dsimp only at c0 c1 c2
            clear hst hown hb HS
            unfold withR at HS2
            dsimp only at HS2
            go_upto_region 9 with (fail)
            clear c0 c1 c2 c3 f0 f1 f2 f3
            generalize World.setCell w6 ⟨gx, 3, none⟩ _ = w7 at *
            obtain ⟨c0, c1, c2, c3, f0, f1, f2, f3⟩ := HS2.out.bx.cells
            dsimp only at c0 c1 c2
            have HSL := hide HS2.out.sl
            have HB2 := hide HS2.out.hb
            clear HS2
            go_wp2_with fail
            refine (QL.out _ _ _ _ HSL.out).mono ?_
            rintro e w8 ⟨rfl, hb⟩
            replace HB2 := hide (Bel.then HB2.out hb)
            clear hb
            go_wp2_with fail
            go_ret2
            exact ⟨rfl, HB2.out⟩
set_option maxRecDepth 100000 in
theorem rsetpage_c (p : ByteArray) (s : Int) (r : ByteArray) (hm : p.size ≤ 4000) (hmr : r.size ≤ 4000) (w : World) : Calls Tryd.prog 39 #[.string p, .int .i64 s, .string r] w fun e w' => e = .returned (.tuple #[.string (setS p s r).1, .int .i64 (setS p s r).2]) ∧ Below w.heap.size w w' := by
  have Q := hide (fun W => parts_c p hm W)
  unfold GivesP at Q
  have QI := hide (fun W => rmay_c r hmr W)
  have QG := hide (fun W => rgetpage_c p s hm W)
  cases hr : rightB p with
  | false =>
    rw [hr] at Q
    have hv : setS p s r = (⟨#[]⟩, 1) := by
      unfold setS
      rw [hr]
      rfl
    rw [hv]
    clear hv hr
    go_enter Tryd.func39, Tryd.ntmps39
    go_wp2_with fail
    refine (Q.out _).mono ?_
    rintro e w2 ⟨x, y, z, A, n, cp, rfl, hb, hall⟩
    clear hall
    have HB := hide (hb.alloc hb.size (.cells #[.int .i64 x, .int .i64 y, .int .i64 z, .slice A n cp] 46))
    clear hb
    go_wp2_with fail
    go_ret2
    exact ⟨rfl, HB.out⟩
  | true =>
    rw [hr] at Q
    cases hi : isRec r with
    | false =>
      have hv : setS p s r = (⟨#[]⟩, 1) := by
        unfold setS
        rw [hi]
        simp
      rw [hv]
      rw [hi] at QI
      clear hi
      clear hv hr
      go_enter Tryd.func39, Tryd.ntmps39
      go_wp2_with fail
      refine (Q.out _).mono ?_
      rintro e w2 ⟨x, y, z, A, n, cp, rfl, hb, hall⟩
      clear hall
      have HB := hide (hb.alloc hb.size (.cells #[.int .i64 x, .int .i64 y, .int .i64 z, .slice A n cp] 46))
      clear hb
      go_wp2_with fail
      refine (QI.out _).mono ?_
      rintro e w5 ⟨rfl, rfl⟩
      go_wp2_with fail
      go_ret2
      exact ⟨rfl, HB.out⟩
    | true =>
      rw [hi] at QI
      cases hg : (getS p s).2 with
      | false =>
        have hv : setS p s r = (⟨#[]⟩, 21) := by
          unfold setS
          rw [if_pos ⟨hr, hi⟩, if_neg (by rw [hg]; decide)]
        rw [hv]
        clear hi
        generalize getS p s = g at *
        obtain ⟨g1, g2⟩ := g
        dsimp only at hg
        subst hg
        clear hv hr
        go_enter Tryd.func39, Tryd.ntmps39
        go_wp2_with fail
        refine (Q.out _).mono ?_
        rintro e w2 ⟨x, y, z, A, n, cp, rfl, hb, hall⟩
        clear hall
        have HB := hide (hb.alloc hb.size (.cells #[.int .i64 x, .int .i64 y, .int .i64 z, .slice A n cp] 46))
        clear hb
        go_wp2_with fail
        refine (QI.out _).mono ?_
        rintro e w5 ⟨rfl, rfl⟩
        go_wp2_with fail
        refine (QG.out _).mono ?_
        rintro e w4 ⟨rfl, hb⟩
        replace HB := hide (Bel.then HB.out hb)
        clear hb
        go_wp2_with fail
        go_ret2
        exact ⟨rfl, HB.out⟩
      | true =>
        obtain ⟨_, hs0, hlt, _, _⟩ := getS_yes hg
        have R := (rightP_iff p).mp hr
        obtain ⟨k, rfl⟩ : ∃ k : Nat, s = k := ⟨s.toNat, by omega⟩
        have hv := set_same (r := r) hi hg
        rw [Int.toNat_natCast] at hv
        rw [← hv]
        have hlen := readC_len p
        have hn5 : (readC p).recs.length ≤ 123 := by rw [hlen]; have := R.gap; have := R.beg; omega
        have hsz : sizeN (setP (readC p).recs k r) ≤ 1048576 := by have h1 := readC_size R; have h2 := sumS_set ((readC p).recs ++ List.replicate (k + 1 - (readC p).recs.length) (⟨#[]⟩ : ByteArray)) k r; rw [sumS_pad] at h2; have h3 := setP_len (readC p).recs k r; rw [Int.toNat_natCast] at hlt; unfold sizeN at h1 ⊢; rw [h3]; unfold setP; omega
        have hkd := readC_kind p
        rw [Int.toNat_natCast] at hlt
        rw [← hlen] at hlt
        clear hv
        generalize readC p = C at *
        obtain ⟨x, y, z, l⟩ := C
        dsimp only at *
        have QL := hide (fun A n c W hW => rlaid_c x y z A n c (setP l k r) W hW hsz hkd)
        obtain ⟨M, hM⟩ : ∃ M, laidR ⟨x, y, z, setP l k r⟩ = M := ⟨_, rfl⟩
        have hM2 : laidR (withR ⟨x, y, z, l⟩ (setP l k r)) = M := hM
        rw [hM2]
        rw [hM] at QL
        have QW := hide (fun A c W h => rwith_c A l.length c l k r W h (by omega) (by omega))
        clear hr hi hM hM2 hsz hlen
        generalize getS p (k : Int) = g at *
        obtain ⟨g1, g2⟩ := g
        dsimp only at hg
        subst hg
        go_enter Tryd.func39, Tryd.ntmps39
        go_wp2_with fail
        refine (Q.out _).mono ?_
        rintro e w2 ⟨x', y', z', A, n', cp, rfl, hb, hall⟩
        obtain ⟨hx1, hx2, hx3, hx4, hown⟩ := hall (by trivial)
        subst x' y' z' n'
        have HS := hide (PtS.new (w := w) (c := ⟨x, y, z, l⟩) hown hb)
        clear hb hown hall Q
        go_upto_region 2 with (fail)
        try dsimp only at HS
        generalize w2.alloc (.cells #[.int .i64 x, .int .i64 y, .int .i64 z, .slice A l.length cp] 46) = w3 at *
        generalize w2.heap.size = gx at *
        go_wp2_with fail
        refine (QI.out _).mono ?_
        rintro e w5 ⟨rfl, rfl⟩
        go_wp2_with fail
        refine (QG.out _).mono ?_
        rintro e w4 ⟨rfl, hb⟩
        replace HS := hide (HS.out.kept hb)
        clear hb
        go_upto_region 7 with (fail)
        obtain ⟨c0, c1, c2, c3, f0, f1, f2, f3⟩ := HS.out.bx.cells
        dsimp only at c0 c1 c2 c3
        go_wp2_with fail
        refine (QW.out _ _ _ HS.out.sl).mono ?_
        rintro e w6 ⟨v, rfl, hown, hb⟩
        obtain ⟨A5, c5, rfl, _⟩ := hown.sl
        have hst := HS.out.renew hb hown
        have HS2 := hide hst.2
        clear c0 c1 c2 c3 f0 f1 f2 f3
        obtain ⟨c0, c1, c2, c3, f0, f1, f2, f3⟩ := hst.1.cells
        dsimp only at c0 c1 c2
        clear hst hown hb HS
        unfold withR at HS2
        dsimp only at HS2
        go_upto_region 8 with (fail)
        clear c0 c1 c2 c3 f0 f1 f2 f3
        generalize World.setCell w6 ⟨gx, 3, none⟩ _ = w7 at *
        obtain ⟨c0, c1, c2, c3, f0, f1, f2, f3⟩ := HS2.out.bx.cells
        dsimp only at c0 c1 c2
        have HSL := hide HS2.out.sl
        have HB2 := hide HS2.out.hb
        clear HS2
        go_wp2_with fail
        refine (QL.out _ _ _ _ HSL.out).mono ?_
        rintro e w8 ⟨rfl, hb⟩
        replace HB2 := hide (Bel.then HB2.out hb)
        clear hb
        go_wp2_with fail
        go_ret2
        exact ⟨rfl, HB2.out⟩
set_option maxRecDepth 100000 in
theorem rcutpage_c (p : ByteArray) (s : Int) (hm : p.size ≤ 4000) (w : World) : Calls Tryd.prog 43 #[.string p, .int .i64 s] w fun e w' => e = .returned (.tuple #[.string (cutS p s).1, .int .i64 (cutS p s).2]) ∧ Below w.heap.size w w' := by
  have Q := hide (fun W => parts_c p hm W)
  unfold GivesP at Q
  have QG := hide (fun W => rgetpage_c p s hm W)
  cases hr : rightB p with
  | false =>
    rw [hr] at Q
    have hv : cutS p s = (⟨#[]⟩, 1) := by
      unfold cutS
      rw [hr]
      rfl
    rw [hv]
    clear hv hr
    go_enter Tryd.func43, Tryd.ntmps43
    go_wp2_with fail
    refine (Q.out _).mono ?_
    rintro e w2 ⟨x, y, z, A, n, cp, rfl, hb, hall⟩
    clear hall
    have HB := hide (hb.alloc hb.size (.cells #[.int .i64 x, .int .i64 y, .int .i64 z, .slice A n cp] 46))
    clear hb
    go_wp2_with fail
    go_ret2
    exact ⟨rfl, HB.out⟩
  | true =>
    rw [hr] at Q
    cases hg : (getS p s).2 with
    | false =>
      have hv : cutS p s = (⟨#[]⟩, 21) := by
        unfold cutS
        rw [if_pos hr, if_neg (by rw [hg]; decide)]
      rw [hv]
      generalize getS p s = g at *
      obtain ⟨g1, g2⟩ := g
      dsimp only at hg
      subst hg
      clear hv hr
      go_enter Tryd.func43, Tryd.ntmps43
      go_wp2_with fail
      refine (Q.out _).mono ?_
      rintro e w2 ⟨x, y, z, A, n, cp, rfl, hb, hall⟩
      clear hall
      have HB := hide (hb.alloc hb.size (.cells #[.int .i64 x, .int .i64 y, .int .i64 z, .slice A n cp] 46))
      clear hb
      go_wp2_with fail
      refine (QG.out _).mono ?_
      rintro e w4 ⟨rfl, hb⟩
      replace HB := hide (Bel.then HB.out hb)
      clear hb
      go_wp2_with fail
      go_ret2
      exact ⟨rfl, HB.out⟩
    | true =>
      obtain ⟨_, hs0, hlt, _, _⟩ := getS_yes hg
      have R := (rightP_iff p).mp hr
      obtain ⟨k, rfl⟩ : ∃ k : Nat, s = k := ⟨s.toNat, by omega⟩
      have hv := cut_same hg
      rw [Int.toNat_natCast] at hv
      rw [← hv]
      have hlen := readC_len p
      have hn5 : (readC p).recs.length ≤ 123 := by rw [hlen]; have := R.gap; have := R.beg; omega
      have hsz : sizeN (setP (readC p).recs k ⟨#[]⟩) ≤ 1048576 := by have h1 := readC_size R; have h2 := sumS_set ((readC p).recs ++ List.replicate (k + 1 - (readC p).recs.length) (⟨#[]⟩ : ByteArray)) k ⟨#[]⟩; rw [sumS_pad] at h2; have h3 := setP_len (readC p).recs k ⟨#[]⟩; have h4 : (⟨#[]⟩ : ByteArray).size = 0 := rfl; rw [Int.toNat_natCast] at hlt; unfold sizeN at h1 ⊢; rw [h3]; unfold setP; omega
      have hkd := readC_kind p
      rw [Int.toNat_natCast] at hlt
      rw [← hlen] at hlt
      clear hv
      generalize readC p = C at *
      obtain ⟨x, y, z, l⟩ := C
      dsimp only at *
      have QL := hide (fun A n c W hW => rlaid_c x y z A n c (setP l k ⟨#[]⟩) W hW hsz hkd)
      obtain ⟨M, hM⟩ : ∃ M, laidR ⟨x, y, z, setP l k ⟨#[]⟩⟩ = M := ⟨_, rfl⟩
      have hM2 : laidR (withR ⟨x, y, z, l⟩ (setP l k ⟨#[]⟩)) = M := hM
      rw [hM2]
      rw [hM] at QL
      have QW := hide (fun A c W h => rwith_c A l.length c l k ⟨#[]⟩ W h (by omega) (by omega))
      clear hr hM hM2 hsz hlen
      generalize getS p (k : Int) = g at *
      obtain ⟨g1, g2⟩ := g
      dsimp only at hg
      subst hg
      go_enter Tryd.func43, Tryd.ntmps43
      go_wp2_with fail
      refine (Q.out _).mono ?_
      rintro e w2 ⟨x', y', z', A, n', cp, rfl, hb, hall⟩
      obtain ⟨hx1, hx2, hx3, hx4, hown⟩ := hall (by trivial)
      subst x' y' z' n'
      have HS := hide (PtS.new (w := w) (c := ⟨x, y, z, l⟩) hown hb)
      clear hb hown hall Q
      go_upto_region 2 with (fail)
      try dsimp only at HS
      generalize w2.alloc (.cells #[.int .i64 x, .int .i64 y, .int .i64 z, .slice A l.length cp] 46) = w3 at *
      generalize w2.heap.size = gx at *
      go_wp2_with fail
      refine (QG.out _).mono ?_
      rintro e w4 ⟨rfl, hb⟩
      replace HS := hide (HS.out.kept hb)
      clear hb
      go_upto_region 7 with (fail)
      obtain ⟨c0, c1, c2, c3, f0, f1, f2, f3⟩ := HS.out.bx.cells
      dsimp only at c0 c1 c2 c3
      go_wp2_with fail
      refine (QW.out _ _ _ HS.out.sl).mono ?_
      rintro e w6 ⟨v, rfl, hown, hb⟩
      obtain ⟨A5, c5, rfl, _⟩ := hown.sl
      have hst := HS.out.renew hb hown
      have HS2 := hide hst.2
      clear c0 c1 c2 c3 f0 f1 f2 f3
      obtain ⟨c0, c1, c2, c3, f0, f1, f2, f3⟩ := hst.1.cells
      dsimp only at c0 c1 c2
      clear hst hown hb HS
      unfold withR at HS2
      dsimp only at HS2
      go_upto_region 8 with (fail)
      clear c0 c1 c2 c3 f0 f1 f2 f3
      generalize World.setCell w6 ⟨gx, 3, none⟩ _ = w7 at *
      obtain ⟨c0, c1, c2, c3, f0, f1, f2, f3⟩ := HS2.out.bx.cells
      dsimp only at c0 c1 c2
      have HSL := hide HS2.out.sl
      have HB2 := hide HS2.out.hb
      clear HS2
      go_wp2_with fail
      refine (QL.out _ _ _ _ HSL.out).mono ?_
      rintro e w8 ⟨rfl, hb⟩
      replace HB2 := hide (Bel.then HB2.out hb)
      clear hb
      go_wp2_with fail
      go_ret2
      exact ⟨rfl, HB2.out⟩
end Go.Proofs.YtfdedkcidemimaaDoor
