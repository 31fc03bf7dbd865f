/- Pages: Cut, Set. -/
import Derived.Test.YtfdedkcidemimaaDoorPnA
namespace Go.Proofs.YtfdedkcidemimaaDoor
set_option linter.unusedVariables false
set_option linter.unusedSimpArgs false
open Go.ChangeShapes Go.WideShapes Go.ChangeAt Go.RowKit

set_option maxRecDepth 100000 in
theorem cutpage_c (p : ByteArray) (s : Int) (hm : p.size ≤ 4000) (w : World) : Calls Tryd.prog 42 #[.string p, .int .i64 s] w fun e w' => e = .returned (.tuple #[.string (cutS p s).1, .int .i64 (cutS p s).2]) ∧ Below w.heap.size w w' := by
  cases hr : rightB p with
  | false =>
    have Q := hide (right_q p hm hr)
    have hv : cutS p s = (⟨#[]⟩, 1) := by unfold cutS; rw [hr]; rfl
    rw [hv]
    clear hr hv
    go_enter Tryd.func42, Tryd.ntmps42
    go_wp2_with fail
    refine (Q.out _).mono ?_
    rintro e w4 ⟨rfl, hb⟩
    go_wp2_with fail
    go_ret2
    exact ⟨rfl, hb⟩
  | true =>
    have Q := hide (right_q p hm hr)
    have QG := hide (fun W => getpage_c p s hm W)
    cases hg : (getS p s).2 with
    | false =>
      have hv : cutS p s = (⟨#[]⟩, 21) := by unfold cutS; rw [if_pos hr, if_neg (by rw [hg]; decide)]
      rw [hv]
      generalize getS p s = g at *
      obtain ⟨g1, g2⟩ := g
      dsimp only at hg
      subst hg
      clear hr hv
      go_enter Tryd.func42, Tryd.ntmps42
      go_wp2_with fail
      refine (Q.out _).mono ?_
      rintro e w4 ⟨rfl, hb⟩
      have HB := hide hb
      clear hb
      go_wp2_with fail
      refine (QG.out _).mono ?_
      rintro e w5 ⟨rfl, hb⟩
      replace HB := hide (Bel.then HB.out hb)
      clear hb
      go_wp2_with fail
      go_ret2
      exact ⟨rfl, HB.out⟩
    | true =>
      obtain ⟨_, hs0, hsl, _, hgv⟩ := getS_yes hg
      have hv : cutS p s = madeS (withR (readC p) ((readC p).recs.set s.toNat ⟨#[]⟩)) := by unfold cutS; rw [if_pos hr, if_pos hg]
      rw [hv]
      obtain ⟨k, rfl⟩ : ∃ k : Nat, s = k := ⟨s.toNat, by omega⟩
      rw [Int.toNat_natCast] at *
      have R := (rightP_iff p).mp hr
      have QR := hide (fun W => read_c p hm R W)
      have hlen := readC_len p
      have hsz : sizeN ((readC p).recs.set k ⟨#[]⟩) ≤ 1048576 := by have h1 := readC_size R; have h2 := sizeN_set (s := k) (r := ⟨#[]⟩) h1; have h3 : (⟨#[]⟩ : ByteArray).size = 0 := rfl; omega
      have hkd := readC_kind p
      rw [← hlen] at hsl
      rw [hgv] at QG
      generalize recAt p k = g1 at *
      generalize readC p = C at *
      obtain ⟨x, y, z, l⟩ := C
      dsimp only at hsz hkd hsl
      have QM := hide (fun A n c W hW => made_c x y z A n c (l.set k ⟨#[]⟩) W hW hsz hkd)
      obtain ⟨M, hM⟩ : ∃ M, madeS ⟨x, y, z, l.set k ⟨#[]⟩⟩ = M := ⟨_, rfl⟩
      have hM2 : madeS (withR ⟨x, y, z, l⟩ (l.set k ⟨#[]⟩)) = M := hM
      rw [hM2]
      rw [hM] at QM
      clear hr hv hg hgv R hlen hM hM2 hs0
      go_enter Tryd.func42, Tryd.ntmps42
      go_wp2_with fail
      refine (Q.out _).mono ?_
      rintro e w4 ⟨rfl, hb⟩
      have HB := hide hb
      clear hb
      go_wp2_with fail
      refine (QG.out _).mono ?_
      rintro e w5 ⟨rfl, hb⟩
      replace HB := hide (Bel.then HB.out hb)
      clear hb
      go_wp2_with fail
      refine (QR.out _).mono ?_
      rintro e w6 ⟨v, rfl, hown, hb⟩
      obtain ⟨A, cp, rfl, _⟩ := hown.sl
      have HS := hide (CtS.new (w := w) (c := ⟨x, y, z, l⟩) (hown.more HB.out.size) (Bel.then HB.out hb))
      clear hb hown HB
      go_upto_region 7 with (fail)
      generalize w6.alloc (.cells #[.int .i64 x, .int .i64 y, .int .i64 z, .slice A l.length cp] 52) = w7 at *
      generalize w6.heap.size = gx at *
      obtain ⟨g, n, cp, e, hkn, hn, hc, hf, hS⟩ := HS.out.put (i := k) hsl ⟨#[]⟩
      injection e with e1 e2 e3
      subst e1 e2 e3
      have HS2 := hide hS
      obtain ⟨c0, c1, c2, c3, f0, f1, f2, f3⟩ := HS.out.bx.cells
      have hki : (k : Int) < l.length := by omega
      clear hS hn
      go_upto_region 8 with (fail)
      clear c0 c1 c2 c3 f0 f1 f2 f3 hc hf HS
      generalize w7.setCell ⟨g, k, none⟩ (.string ⟨#[]⟩) = w8 at *
      have HSL := hide HS2.out.sl
      have HB2 := hide HS2.out.hb
      obtain ⟨c0, c1, c2, c3, f0, f1, f2, f3⟩ := HS2.out.bx.cells
      dsimp only at c0 c1 c2 c3
      clear HS2
      go_wp2_with fail
      refine (QM.out _ _ _ _ HSL.out).mono ?_
      rintro e w9 ⟨rfl, hb⟩
      replace HB2 := hide (Bel.then HB2.out hb)
      clear hb
      go_wp2_with fail
      go_ret2
      exact ⟨rfl, HB2.out⟩
end Go.Proofs.YtfdedkcidemimaaDoor
