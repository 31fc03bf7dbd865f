/- Pages: Set, Put. -/
import Derived.Test.YtfdedkcidemimaaDoorPnB
namespace Go.Proofs.YtfdedkcidemimaaDoor
set_option linter.unusedVariables false
set_option linter.unusedSimpArgs false
open Go.ChangeShapes Go.WideShapes Go.ChangeAt Go.RowKit

set_option maxRecDepth 100000 in
theorem setpage_c (p : ByteArray) (s : Int) (r : ByteArray) (hm : p.size ≤ 4000) (hmr : r.size ≤ 4000) (w : World) : Calls Tryd.prog 38 #[.string p, .int .i64 s, .string r] w fun e w' => e = .returned (.tuple #[.string (setS p s r).1, .int .i64 (setS p s r).2]) ∧ Below w.heap.size w w' := by
  have QI := hide (fun W => isRecord_c r hmr W)
  cases hr : rightB p with
  | false =>
    have Q := hide (right_q p hm hr)
    have hv : setS p s r = (⟨#[]⟩, 1) := by
      unfold setS
      rw [hr]
      rfl
    rw [hv]
    clear hv hr
    go_enter Tryd.func38, Tryd.ntmps38
    go_wp2_with fail
    refine (Q.out _).mono ?_
    rintro e w4 ⟨rfl, hb⟩
    have HB := hide hb
    clear hb
    go_wp2_with fail
    go_ret2
    exact ⟨rfl, HB.out⟩
  | true =>
    have Q := hide (right_q p hm hr)
    have QG := hide (fun W => getpage_c p s hm W)
    cases hi : isRec r with
    | false =>
      have hv : setS p s r = (⟨#[]⟩, 1) := by
        unfold setS
        rw [hi]
        simp
      rw [hv]
      rw [hi] at QI
      clear hi
      clear hv hr
      go_enter Tryd.func38, Tryd.ntmps38
      go_wp2_with fail
      refine (Q.out _).mono ?_
      rintro e w4 ⟨rfl, hb⟩
      have HB := hide hb
      clear hb
      go_wp2_with fail
      refine (QI.out _).mono ?_
      rintro e w5 ⟨rfl, rfl⟩
      go_wp2_with fail
      go_ret2
      exact ⟨rfl, HB.out⟩
    | true =>
      rw [hi] at QI
      cases hg : (getS p s).2 with
      | false =>
        have hv : setS p s r = (⟨#[]⟩, 21) := by
          unfold setS
          rw [if_pos ⟨hr, hi⟩, if_neg (by rw [hg]; decide)]
        rw [hv]
        clear hi
        generalize getS p s = g at *
        obtain ⟨g1, g2⟩ := g
        dsimp only at hg
        subst hg
        clear hv hr
        go_enter Tryd.func38, Tryd.ntmps38
        go_wp2_with fail
        refine (Q.out _).mono ?_
        rintro e w4 ⟨rfl, hb⟩
        have HB := hide hb
        clear hb
        go_wp2_with fail
        refine (QI.out _).mono ?_
        rintro e w5 ⟨rfl, rfl⟩
        go_wp2_with fail
        refine (QG.out _).mono ?_
        rintro e w6 ⟨rfl, hb⟩
        replace HB := hide (Bel.then HB.out hb)
        clear hb
        go_wp2_with fail
        go_ret2
        exact ⟨rfl, HB.out⟩
      | true =>
        obtain ⟨_, hs0, hsl, _, hgv⟩ := getS_yes hg
        have hv : setS p s r = madeS (withR (readC p) ((readC p).recs.set s.toNat r)) := by unfold setS; rw [if_pos ⟨hr, hi⟩, if_pos hg]
        rw [hv]
        obtain ⟨k, rfl⟩ : ∃ k : Nat, s = k := ⟨s.toNat, by omega⟩
        rw [Int.toNat_natCast] at *
        have R := (rightP_iff p).mp hr
        have QR := hide (fun W => read_c p hm R W)
        have hlen := readC_len p
        have hsz : sizeN ((readC p).recs.set k r) ≤ 1048576 := by have h1 := readC_size R; have h2 := sizeN_set (s := k) (r := r) h1; omega
        have hkd := readC_kind p
        rw [← hlen] at hsl
        rw [hgv] at QG
        generalize recAt p k = g1 at *
        generalize readC p = C at *
        obtain ⟨x, y, z, l⟩ := C
        dsimp only at hsz hkd hsl
        have QM := hide (fun A n c W hW => made_c x y z A n c (l.set k r) W hW hsz hkd)
        obtain ⟨M, hM⟩ : ∃ M, madeS ⟨x, y, z, l.set k r⟩ = M := ⟨_, rfl⟩
        have hM2 : madeS (withR ⟨x, y, z, l⟩ (l.set k r)) = M := hM
        rw [hM2]
        rw [hM] at QM
        clear hr hv hg hgv R hlen hM hM2 hs0 hi
        go_enter Tryd.func38, Tryd.ntmps38
        go_wp2_with fail
        refine (Q.out _).mono ?_
        rintro e w4 ⟨rfl, hb⟩
        have HB := hide hb
        clear hb
        go_wp2_with fail
        refine (QI.out _).mono ?_
        rintro e w5 ⟨rfl, rfl⟩
        go_wp2_with fail
        refine (QG.out _).mono ?_
        rintro e w6 ⟨rfl, hb⟩
        replace HB := hide (Bel.then HB.out hb)
        clear hb
        go_wp2_with fail
        refine (QR.out _).mono ?_
        rintro e w7 ⟨v, rfl, hown, hb⟩
        obtain ⟨A, cp, rfl, _⟩ := hown.sl
        have HS := hide (CtS.new (w := w) (c := ⟨x, y, z, l⟩) (hown.more HB.out.size) (Bel.then HB.out hb))
        clear hb hown HB
        go_upto_region 7 with (fail)
        generalize w7.alloc (.cells #[.int .i64 x, .int .i64 y, .int .i64 z, .slice A l.length cp] 52) = w8 at *
        generalize w7.heap.size = gx at *
        obtain ⟨g, n, cp, e, hkn, hn, hc, hf, hS⟩ := HS.out.put (i := k) hsl r
        injection e with e1 e2 e3
        subst e1 e2 e3
        have HS2 := hide hS
        obtain ⟨c0, c1, c2, c3, f0, f1, f2, f3⟩ := HS.out.bx.cells
        have hki : (k : Int) < l.length := by omega
        clear hS hn
        go_upto_region 8 with (fail)
        clear c0 c1 c2 c3 f0 f1 f2 f3 hc hf HS
        generalize w8.setCell ⟨g, k, none⟩ (.string r) = w9 at *
        have HSL := hide HS2.out.sl
        have HB2 := hide HS2.out.hb
        obtain ⟨c0, c1, c2, c3, f0, f1, f2, f3⟩ := HS2.out.bx.cells
        dsimp only at c0 c1 c2 c3
        clear HS2
        go_wp2_with fail
        refine (QM.out _ _ _ _ HSL.out).mono ?_
        rintro e w9 ⟨rfl, hb⟩
        replace HB2 := hide (Bel.then HB2.out hb)
        clear hb
        go_wp2_with fail
        go_ret2
        exact ⟨rfl, HB2.out⟩
set_option maxRecDepth 100000 in
theorem putpage_c (p : ByteArray) (s : Int) (r : ByteArray) (hm : p.size ≤ 4000) (hmr : r.size ≤ 4000) (w : World) : Calls Tryd.prog 36 #[.string p, .int .i64 s, .string r] w fun e w' => e = .returned (.tuple #[.string (putS p s r).1, .int .i64 (putS p s r).2]) ∧ Below w.heap.size w w' := by
  have QI := hide (fun W => isRecord_c r hmr W)
  cases hr : rightB p with
  | false =>
    have Q := hide (right_q p hm hr)
    have hv : putS p s r = (⟨#[]⟩, 1) := by
      unfold putS
      rw [hr]
      rfl
    rw [hv]
    clear hv hr
    go_enter Tryd.func36, Tryd.ntmps36
    go_wp2_with fail
    refine (Q.out _).mono ?_
    rintro e w4 ⟨rfl, hb⟩
    have HB := hide hb
    clear hb
    go_wp2_with fail
    go_ret2
    exact ⟨rfl, HB.out⟩
  | true =>
    have Q := hide (right_q p hm hr)
    have QG := hide (fun W => getpage_c p s hm W)
    by_cases hs0 : s < 0
    ·
      have hv : putS p s r = (⟨#[]⟩, 1) := by
        unfold putS
        rw [if_neg (by omega)]
      rw [hv]
      clear hv hr
      go_enter Tryd.func36, Tryd.ntmps36
      go_wp2_with fail
      refine (Q.out _).mono ?_
      rintro e w4 ⟨rfl, hb⟩
      have HB := hide hb
      clear hb
      go_wp2_with fail
      go_ret2
      exact ⟨rfl, HB.out⟩
    · cases hi : isRec r with
      | false =>
        have hv : putS p s r = (⟨#[]⟩, 1) := by
          unfold putS
          rw [hi]
          simp
        rw [hv]
        rw [hi] at QI
        clear hi
        clear hv hr
        go_enter Tryd.func36, Tryd.ntmps36
        go_wp2_with fail
        refine (Q.out _).mono ?_
        rintro e w4 ⟨rfl, hb⟩
        have HB := hide hb
        clear hb
        go_wp2_with fail
        refine (QI.out _).mono ?_
        rintro e w5 ⟨rfl, rfl⟩
        go_wp2_with fail
        go_ret2
        exact ⟨rfl, HB.out⟩
      | true =>
        rw [hi] at QI
        cases hg : (getS p s).2 with
        | true =>
          have hv : putS p s r = (⟨#[]⟩, 1) := by
            unfold putS
            rw [if_pos ⟨hr, by omega, hi⟩, if_pos hg]
          rw [hv]
          clear hi
          generalize getS p s = g at *
          obtain ⟨g1, g2⟩ := g
          dsimp only at hg
          subst hg
          clear hv hr
          go_enter Tryd.func36, Tryd.ntmps36
          go_wp2_with fail
          refine (Q.out _).mono ?_
          rintro e w4 ⟨rfl, hb⟩
          have HB := hide hb
          clear hb
          go_wp2_with fail
          refine (QI.out _).mono ?_
          rintro e w5 ⟨rfl, rfl⟩
          go_wp2_with fail
          refine (QG.out _).mono ?_
          rintro e w6 ⟨rfl, hb⟩
          replace HB := hide (Bel.then HB.out hb)
          clear hb
          go_wp2_with fail
          go_ret2
          exact ⟨rfl, HB.out⟩
        | false =>
          by_cases h128 : 128 ≤ s
          ·
            have hv : putS p s r = (⟨#[]⟩, 18) := by
              unfold putS
              rw [if_pos ⟨hr, by omega, hi⟩, if_neg (by rw [hg]; decide), if_pos h128]
            rw [hv]
            clear hi
            generalize getS p s = g at *
            obtain ⟨g1, g2⟩ := g
            dsimp only at hg
            subst hg
            clear hv hr
            go_enter Tryd.func36, Tryd.ntmps36
            go_wp2_with fail
            refine (Q.out _).mono ?_
            rintro e w4 ⟨rfl, hb⟩
            have HB := hide hb
            clear hb
            go_wp2_with fail
            refine (QI.out _).mono ?_
            rintro e w5 ⟨rfl, rfl⟩
            go_wp2_with fail
            refine (QG.out _).mono ?_
            rintro e w6 ⟨rfl, hb⟩
            replace HB := hide (Bel.then HB.out hb)
            clear hb
            go_wp2_with fail
            go_ret2
            exact ⟨rfl, HB.out⟩
          · have hv : putS p s r = madeS (withR (readC p) (setP (readC p).recs s.toNat r)) := by unfold putS; rw [if_pos ⟨hr, by omega, hi⟩, if_neg (by rw [hg]; decide), if_neg h128]
            rw [hv]
            obtain ⟨k, rfl⟩ : ∃ k : Nat, s = k := ⟨s.toNat, by omega⟩
            rw [Int.toNat_natCast] at *
            have R := (rightP_iff p).mp hr
            have QR := hide (fun W => read_c p hm R W)
            have hlen := readC_len p
            have hsz : sizeN (setP (readC p).recs k r) ≤ 1048576 := sizeN_setP (readC_size R) (by omega) hmr
            have hn5 : (readC p).recs.length ≤ 123 := by rw [hlen]; have := R.gap; have := R.beg; omega
            have hkd := readC_kind p
            generalize getS p (k : Int) = gv at *
            obtain ⟨g1, g2⟩ := gv
            dsimp only at hg
            subst hg
            generalize readC p = C at *
            obtain ⟨x, y, z, l⟩ := C
            dsimp only at hsz hkd hn5
            have QM := hide (fun A n c W hW => made_c x y z A n c (setP l k r) W hW hsz hkd)
            obtain ⟨M, hM⟩ : ∃ M, madeS ⟨x, y, z, setP l k r⟩ = M := ⟨_, rfl⟩
            have hM2 : madeS (withR ⟨x, y, z, l⟩ (setP l k r)) = M := hM
            rw [hM2]
            rw [hM] at QM
            clear hr hv R hlen hM hM2 hi hsz
            obtain ⟨i0, hi0, hz0, hz1, hz2⟩ := info_parts str_info
            go_enter Tryd.func36, Tryd.ntmps36
            go_wp2_with fail
            refine (Q.out _).mono ?_
            rintro e w4 ⟨rfl, hb⟩
            have HB := hide hb
            clear hb
            go_wp2_with fail
            refine (QI.out _).mono ?_
            rintro e w5 ⟨rfl, rfl⟩
            go_wp2_with fail
            refine (QG.out _).mono ?_
            rintro e w6 ⟨rfl, hb⟩
            replace HB := hide (Bel.then HB.out hb)
            clear hb
            go_wp2_with fail
            refine (QR.out _).mono ?_
            rintro e w7 ⟨v, rfl, hown, hb⟩
            obtain ⟨A, cp, rfl, _⟩ := hown.sl
            have HS := hide (CtS.new (w := w) (c := ⟨x, y, z, l⟩) (hown.more HB.out.size) (Bel.then HB.out hb))
            clear hb hown HB
            go_upto_region 9 with (fail)
            generalize w7.alloc (.cells #[.int .i64 x, .int .i64 y, .int .i64 z, .slice A l.length cp] 52) = w8 at *
            generalize w7.heap.size = gx at *
            have HX0 := hide (show ∃ j, l.length + j ≤ max l.length (k + 1) ∧ ∃ v, CtS w gx ⟨x, y, z, l ++ List.replicate j ⟨#[]⟩⟩ v w8 from ⟨0, by omega, _, by simpa using HS.out⟩)
            clear HS
            go_loopw [] (fun wr => ∃ j, l.length + j ≤ max l.length (k + 1) ∧ ∃ v, Hid (CtS w gx ⟨x, y, z, l ++ List.replicate j ⟨#[]⟩⟩ v wr)) (fun wr => 200 - (match wr.cell? ⟨gx, 3, none⟩ with | some (.slice _ n _) => n | _ => 0))
            case atStart => exact HX0.out
            case round =>
              clear HX0
              obtain ⟨j, hj, v, HS⟩ := hrel
              obtain ⟨A2, cp2, rfl, hs2⟩ := HS.out.own.sl
              clear hs2
              have hml : (l ++ List.replicate j (⟨#[]⟩ : ByteArray)).length = l.length + j := by simp
              dsimp only at HS ⊢
              generalize hm2 : (l ++ List.replicate j (⟨#[]⟩ : ByteArray)).length = m at *
              by_cases hlt : m ≤ k
              · have hlti : (m : Int) ≤ (k : Int) := by omega
                have HLT := hide (show Cells (wr.alloc (.cells #[.string ⟨#[]⟩] 9)) (wr.heap.size + 1) (some ⟨wr.heap.size, 0, none⟩) [.string ⟨#[]⟩] from cells_lit wr _ _)
                have HS1 := hide (HS.out.kept (Bel.one wr (.cells #[.string ⟨#[]⟩] 9)))
                have HM := hide hm2
                have HML := hide hml
                have ho1 := HS1.out.own
                unfold OwnS at ho1
                dsimp only at ho1
                rw [hm2] at ho1
                have HO1 := hide ho1
                obtain ⟨c0, c1, c2, c3, f0, f1, f2, f3⟩ := HS.out.bx.cells
                obtain ⟨d0, d1, d2, d3, y0, y1, y2, y3⟩ := HS1.out.bx.cells
                dsimp only at c0 c1 c2 c3 d0 d1 d2 d3
                have hm150 : m ≤ 200 := by omega
                have HC3 := hide c3
                clear hm2 hml ho1
                go_wp2_with (at_builtin; refine wpList_app rfl (.tmp 40) (.tmp 41) 37 rfl w.heap.size 9 i0 _ 1 16 Tryd.underlying37 hi0 hz0 hz1 hz2 rfl (by omega) _ m _ rfl HO1.out _ _ 1 1 [.string ⟨#[]⟩] rfl rfl HLT.out (by simp [Value.oneCell']) (by unfold maxLen; omega) (by omega) HS1.out.hb.size (by simp) ?_; intro v5 w5 hown5 hg5 hat5; obtain ⟨A5, c5, rfl, hc5, hA5, _⟩ := own_form hown5; have hat6 : (Value.slice A5 (m + 1) c5).ownBlock = (Value.slice A2 m cp2).ownBlock ∨ _ := hat5; have hg6 : World.grownBy _ w5 (Value.slice A2 m cp2).ownBlock := hg5; have hst := HS1.out.step (OwnS.of_app HM.out hown5) hg6 hat6; have HS2 := hide hst.2; obtain ⟨e0, e1, e2, e3, z0, z1, z2, z3⟩ := hst.1.cells; dsimp only at e0 e1 e2; clear hown5 hg5 hat5 hst hat6 hg6)
                go_roundw
                case rel =>
                  have hrr : l ++ List.replicate (j + 1) (⟨#[]⟩ : ByteArray) = l ++ List.replicate j ⟨#[]⟩ ++ [⟨#[]⟩] := by rw [List.replicate_succ', List.append_assoc]
                  exact ⟨j + 1, by have := HML.out; omega, _, by rw [hrr]; exact HS2⟩
                case measure =>
                  have h9 := (HS2.out.bx.cells).2.2.2.1
                  have h8 := HC3.out
                  simp [h9, h8]
                  omega
              · have hlti : ¬ (m : Int) ≤ (k : Int) := by omega
                have hjk : j = k + 1 - l.length := by omega
                obtain ⟨g, n, cp3, e, hkn, hn, hc, hf, hS⟩ := HS.out.put (i := k) (by show k < (l ++ List.replicate j (⟨#[]⟩ : ByteArray)).length; omega) r
                injection e with e1 e2 e3
                subst e1 e2 e3
                have hS2 : CtS w gx ⟨x, y, z, setP l k r⟩ (.slice (some ⟨g, 0, none⟩) m cp2) (wr.setCell ⟨g, k, none⟩ (.string r)) := by
                  have := hS
                  unfold setP
                  rw [← hjk]
                  exact this
                have HS2 := hide hS2
                obtain ⟨c0, c1, c2, c3, f0, f1, f2, f3⟩ := HS.out.bx.cells
                dsimp only at c0 c1 c2 c3
                have hki : (k : Int) < m := by omega
                clear hS hn hS2 hml hjk
                go_upto_region 12 with (fail)
                clear c0 c1 c2 c3 f0 f1 f2 f3 hc hf HS
                generalize wr.setCell ⟨g, k, none⟩ (.string r) = w9 at *
                have HSL := hide HS2.out.sl
                have HB2 := hide HS2.out.hb
                obtain ⟨c0, c1, c2, c3, f0, f1, f2, f3⟩ := HS2.out.bx.cells
                dsimp only at c0 c1 c2 c3
                clear HS2
                go_wp2_with fail
                refine (QM.out _ _ _ _ HSL.out).mono ?_
                rintro e w9 ⟨rfl, hb⟩
                replace HB2 := hide (Bel.then HB2.out hb)
                clear hb
                go_wp2_with fail
                go_ret2
                exact ⟨rfl, HB2.out⟩
end Go.Proofs.YtfdedkcidemimaaDoor
