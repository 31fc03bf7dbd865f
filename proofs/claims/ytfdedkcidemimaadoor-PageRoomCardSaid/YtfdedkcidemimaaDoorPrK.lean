/- Pages of the reference: Add, Del. -/
import Derived.Test.YtfdedkcidemimaaDoorPmG
import Derived.Test.YtfdedkcidemimaaDoorPrG
import Derived.Test.YtfdedkcidemimaaDoorPrJ
namespace Go.Proofs.YtfdedkcidemimaaDoor
set_option linter.unusedVariables false
set_option linter.unusedSimpArgs false
open Go.ChangeShapes Go.WideShapes Go.ChangeAt Go.RowKit

theorem OwnS.of_appL {w' : World} {B : Nat} {v' : Value} {L M : List ByteArray} {n m : Nat} (hn : L.length = n) (hm : M.length = m) (h : w'.ownsRow B 9 1 v' (n + m) ((L.map stC).flatten ++ (M.map stC).flatten)) : OwnS w' B v' (L ++ M) := by
  subst hn hm
  unfold OwnS
  rw [List.map_append, List.flatten_append, List.length_append]
  exact h
set_option maxRecDepth 100000 in
set_option maxHeartbeats 1000000 in
theorem raddpage_c (p : ByteArray) (s : Int) (r : ByteArray) (hm : p.size ≤ 4000) (hmr : r.size ≤ 4000) (w : World) : Calls Tryd.prog 41 #[.string p, .int .i64 s, .string r] w fun e w' => e = .returned (.tuple #[.string (addS p s r).1, .int .i64 (addS p s r).2]) ∧ Below w.heap.size w w' := by
  have Q := hide (fun W => parts_c p hm W)
  unfold GivesP at Q
  have QI := hide (fun W => rmay_c r hmr W)
  have QP := hide (fun W => rputpage_c p s r hm hmr W)
  cases hr : rightB p with
  | false =>
    rw [hr] at Q
    have hv : addS p s r = (⟨#[]⟩, 1) := by
      unfold addS
      rw [hr]
      rfl
    rw [hv]
    clear hv hr
    go_enter Tryd.func41, Tryd.ntmps41
    go_wp2_with fail
    refine (Q.out _).mono ?_
    rintro e w2 ⟨x, y, z, A, n, cp, rfl, hb, hall⟩
    clear hall
    have HB := hide (hb.alloc hb.size (.cells #[.int .i64 x, .int .i64 y, .int .i64 z, .slice A n cp] 46))
    clear hb
    go_wp2_with fail
    go_ret2
    exact ⟨rfl, HB.out⟩
  | true =>
    rw [hr] at Q
    by_cases hs0 : s < 0
    · have hv : addS p s r = (⟨#[]⟩, 1) := by unfold addS; rw [if_neg (by omega)]
      rw [hv]
      clear hv hr
      go_enter Tryd.func41, Tryd.ntmps41
      go_wp2_with fail
      refine (Q.out _).mono ?_
      rintro e w2 ⟨x, y, z, A, n, cp, rfl, hb, hall⟩
      clear hall
      have HB := hide (hb.alloc hb.size (.cells #[.int .i64 x, .int .i64 y, .int .i64 z, .slice A n cp] 46))
      clear hb
      go_wp2_with fail
      go_ret2
      exact ⟨rfl, HB.out⟩
    · cases hi : isRec r with
      | false =>
        have hv : addS p s r = (⟨#[]⟩, 1) := by
          unfold addS
          rw [hi]
          simp
        rw [hv]
        rw [hi] at QI
        clear hi
        clear hv hr
        go_enter Tryd.func41, Tryd.ntmps41
        go_wp2_with fail
        refine (Q.out _).mono ?_
        rintro e w2 ⟨x, y, z, A, n, cp, rfl, hb, hall⟩
        clear hall
        have HB := hide (hb.alloc hb.size (.cells #[.int .i64 x, .int .i64 y, .int .i64 z, .slice A n cp] 46))
        clear hb
        go_wp2_with fail
        refine (QI.out _).mono ?_
        rintro e w5 ⟨rfl, rfl⟩
        go_wp2_with fail
        go_ret2
        exact ⟨rfl, HB.out⟩
      | true =>
        rw [hi] at QI
        have R := (rightP_iff p).mp hr
        have hlen := readC_len p
        by_cases hfar : (shN p 15 : Int) ≤ s
        · rw [← add_far R (by omega) hi hfar]
          rw [← hlen] at hfar
          generalize putS p s r = M at *
          generalize readC p = C at *
          obtain ⟨x, y, z, l⟩ := C
          dsimp only at *
          clear hr hi R hlen
          go_enter Tryd.func41, Tryd.ntmps41
          go_wp2_with fail
          refine (Q.out _).mono ?_
          rintro e w2 ⟨x', y', z', A, n', cp, rfl, hb, hall⟩
          obtain ⟨hx1, hx2, hx3, hx4, hown⟩ := hall (by trivial)
          subst x' y' z' n'
          have HS := hide (PtS.new (w := w) (c := ⟨x, y, z, l⟩) hown hb)
          clear hb hown hall Q
          go_upto_region 2 with (fail)
          try dsimp only at HS
          generalize w2.alloc (.cells #[.int .i64 x, .int .i64 y, .int .i64 z, .slice A l.length cp] 46) = w3 at *
          generalize w2.heap.size = gx at *
          go_wp2_with fail
          refine (QI.out _).mono ?_
          rintro e w5 ⟨rfl, rfl⟩
          go_upto_region 4 with (fail)
          obtain ⟨c0, c1, c2, c3, f0, f1, f2, f3⟩ := HS.out.bx.cells
          dsimp only at c0 c1 c2 c3
          go_wp2_with fail
          refine (QP.out _).mono ?_
          rintro e w6 ⟨rfl, hb⟩
          have HB := hide (Bel.then HS.out.hb hb)
          clear hb
          go_wp2_with fail
          go_ret2
          exact ⟨rfl, HB.out⟩
        · have hv := add_near (s := s) (r := r) R (by omega) hi (by omega)
          obtain ⟨k, rfl⟩ : ∃ k : Nat, s = k := ⟨s.toNat, by omega⟩
          rw [Int.toNat_natCast] at hv
          rw [← hv]
          rw [← hlen] at hfar
          have hn5 : (readC p).recs.length ≤ 123 := by rw [hlen]; have := R.gap; have := R.beg; omega
          have hsz : sizeN ((readC p).recs.take k ++ r :: (readC p).recs.drop k) ≤ 1048576 := by have h1 := readC_size R; have h2 := sumS_ins (readC p).recs k r; rw [insP_lt (by omega)] at h2; unfold sizeN at h1 ⊢; rw [List.length_append, List.length_cons, List.length_take, List.length_drop]; omega
          have hkd := readC_kind p
          clear hv
          generalize readC p = C at *
          obtain ⟨x, y, z, l⟩ := C
          dsimp only at *
          obtain ⟨i0, hi0, hz0, hz1, hz2⟩ := info_parts str_info
          have QL := hide (fun A n c W hW => rlaid_c x y z A n c (l.take k ++ r :: l.drop k) W hW hsz hkd)
          obtain ⟨M, hM⟩ : ∃ M, laidR ⟨x, y, z, l.take k ++ r :: l.drop k⟩ = M := ⟨_, rfl⟩
          have hM2 : laidR (withR ⟨x, y, z, l⟩ (l.take k ++ r :: l.drop k)) = M := hM
          rw [hM2]
          rw [hM] at QL
          obtain ⟨L5, hL5⟩ : ∃ L5, l.take k ++ r :: l.drop k = L5 := ⟨_, rfl⟩
          rw [hL5] at QL
          have HLL5 := hide hL5
          clear hL5
          have hkl : k < l.length := by omega
          have hki : ¬ (l.length : Int) ≤ (k : Int) := by omega
          have hki2 : (k : Int) ≤ (l.length : Int) := by omega
          have HT1 := hide (show ((l.take k).map stC).flatten.length = k * 1 by rw [stC_flen, List.length_take]; omega)
          have HT2 := hide (show ((l.drop k).map stC).flatten.length = (l.length - k) * 1 by rw [stC_flen, List.length_drop])
          have HO1 := hide (stC_ones (l.take k))
          have HO2 := hide (stC_ones (l.drop k))
          have HKT := hide (show (l.take k).length = k by rw [List.length_take]; omega)
          have HKD := hide (show (l.drop k).length = l.length - k by rw [List.length_drop])
          clear hr hi hM hM2 hsz hlen R hfar
          go_enter Tryd.func41, Tryd.ntmps41
          go_wp2_with fail
          refine (Q.out _).mono ?_
          rintro e w2 ⟨x', y', z', A, n', cp, rfl, hb, hall⟩
          obtain ⟨hx1, hx2, hx3, hx4, hown⟩ := hall (by trivial)
          subst x' y' z' n'
          have HS := hide (PtS.new (w := w) (c := ⟨x, y, z, l⟩) hown hb)
          clear hb hown hall Q
          go_upto_region 2 with (fail)
          try dsimp only at HS
          generalize w2.alloc (.cells #[.int .i64 x, .int .i64 y, .int .i64 z, .slice A l.length cp] 46) = w3 at *
          generalize w2.heap.size = gx at *
          go_wp2_with fail
          refine (QI.out _).mono ?_
          rintro e w5 ⟨rfl, rfl⟩
          obtain ⟨c0, c1, c2, c3, f0, f1, f2, f3⟩ := HS.out.bx.cells
          dsimp only at c0 c1 c2 c3
          go_upto_region 7 with (fail)
          have HSL := hide HS.out.sl
          have hcap := HSL.out.cap
          have hnil : A = none → k = 0 := fun e => by have := HSL.out.nil e; (try dsimp only at this); omega
          have hnil3 : Option.map (fun x => x.add k) A = none → l.length - k = 0 := fun e => by have := HSL.out.nil (by cases A with | none => rfl | some a => cases e); (try dsimp only at this); omega
          have hck : ¬ cp = k := by omega
          have hcki : (k : Int) ≤ (cp : Int) := by omega
          dsimp only at HSL
          have HC1 := hide (HSL.out.takeC (j := k) (by omega))
          go_upto_region 8 with (at_builtin; refine wpList_app rfl (.tmp 38) (.tmp 42) 37 rfl w3.heap.size 9 i0 _ 1 16 Tryd.underlying37 hi0 hz0 hz1 hz2 rfl (by omega) _ 0 [] rfl (World.ownsRow_nil _ _ _ _) _ A k cp ((l.take k).map stC).flatten rfl HT1.out HC1.out HO1.out (by unfold maxLen; omega) (by omega) (Nat.le_refl _) hnil ?_; intro v4 w4 hown4 hg4 hat4; rw [Nat.zero_add, List.nil_append] at hown4)
          have HB4 := hide (own_grown (Below.refl w3.heap.size w3) hg4 (fun q hq => by cases hq))
          have ho4 : OwnS w4 w3.heap.size v4 (l.take k) := by unfold OwnS; rw [HKT.out]; exact hown4
          have HO4 := hide ho4
          clear hown4 hg4 hat4 ho4
          have HL5 := hide (show Cells (w4.alloc (.cells #[.string r] 9)) (w4.heap.size + 1) (some ⟨w4.heap.size, 0, none⟩) [.string r] from cells_lit w4 _ _)
          have hq := HO4.out.kept (Bel.one w4 (.cells #[.string r] 9))
          unfold OwnS at hq
          rw [HKT.out] at hq
          have HO5 := hide hq
          have HB5 := hide (HB4.out.alloc HB4.out.size (.cells #[.string r] 9))
          clear hq
          go_upto_region 9 with (at_builtin; refine wpList_app rfl (.tmp 44) (.tmp 46) 37 rfl w3.heap.size 9 i0 _ 1 16 Tryd.underlying37 hi0 hz0 hz1 hz2 rfl (by omega) _ k _ rfl HO5.out _ _ 1 1 [.string r] rfl rfl HL5.out (by simp [Value.oneCell']) (by unfold maxLen; omega) (by omega) HB5.out.size (by simp) ?_; intro v6 w6 hown6 hg6 hat6)
          have HB6 := hide (own_grown HB5.out hg6 (fun q hq => (World.ownsRow.lt HO5.out q hq).1))
          have HO6 := hide (OwnS.of_app HKT.out hown6)
          clear hown6 hg6 hat6 HO4 HO5 HL5 HB4 HB5
          have HS6 := hide (HS.out.kept HB6.out)
          have HSL6 := hide (HSL.out.below HB6.out)
          have hc6 := HSL6.out.dropC (j := k) (by omega)
          rw [if_neg hck] at hc6
          have HC6 := hide hc6
          have ho6 := HO6.out
          unfold OwnS at ho6
          have hl6 : (l.take k ++ [r]).length = k + 1 := by rw [List.length_append, HKT.out]; rfl
          rw [hl6] at ho6
          have HO7 := hide ho6
          have HLL := hide hl6
          clear c0 c1 c2 c3 f0 f1 f2 f3 hc6 ho6 hl6
          obtain ⟨c0, c1, c2, c3, f0, f1, f2, f3⟩ := HS6.out.bx.cells
          dsimp only at c0 c1 c2 c3
          go_upto_region 10 with (at_builtin; refine wpList_app rfl (.tmp 48) (.tmp 52) 37 rfl w3.heap.size 9 i0 _ 1 16 Tryd.underlying37 hi0 hz0 hz1 hz2 rfl (by omega) _ (k + 1) _ rfl HO7.out _ _ (l.length - k) _ ((l.drop k).map stC).flatten rfl HT2.out HC6.out HO2.out (by unfold maxLen; omega) (by omega) HB6.out.size hnil3 ?_; intro v7 w7 hown7 hg7 hat7; have hb7 := own_grown HB6.out hg7 (fun q hq => (World.ownsRow.lt HO7.out q hq).1); have hown8 := OwnS.of_appL HLL.out HKD.out hown7; rw [List.append_assoc] at hown8; have hown : OwnS w7 w3.heap.size v7 L5 := HLL5.out ▸ hown8; obtain ⟨A5, c5, rfl, _⟩ := hown.sl; have hst := HS.out.renew hb7 hown; have HS2 := hide hst.2; have HX2 := hide hst.1; clear hst hown hown7 hown8 hg7 hat7 hb7; obtain ⟨e0, e1, e2, e3, z0, z1, z2, z3⟩ := HX2.out.cells; dsimp only at e0 e1 e2)
          clear e0 e1 e2 e3 z0 z1 z2 z3 c0 c1 c2 c3 f0 f1 f2 f3
          unfold withR at HS2
          dsimp only at HS2
          generalize World.setCell w7 ⟨gx, 3, none⟩ _ = w8 at *
          obtain ⟨c0, c1, c2, c3, f0, f1, f2, f3⟩ := HS2.out.bx.cells
          dsimp only at c0 c1 c2
          have HSL9 := hide HS2.out.sl
          have HB2 := hide HS2.out.hb
          clear HS2
          go_wp2_with fail
          refine (QL.out _ _ _ _ HSL9.out).mono ?_
          rintro e w9 ⟨rfl, hb⟩
          replace HB2 := hide (Bel.then HB2.out hb)
          clear hb
          go_wp2_with fail
          go_ret2
          exact ⟨rfl, HB2.out⟩
set_option maxRecDepth 100000 in
set_option maxHeartbeats 1000000 in
theorem rdelpage_c (p : ByteArray) (s : Int) (hm : p.size ≤ 4000) (w : World) : Calls Tryd.prog 45 #[.string p, .int .i64 s] w fun e w' => e = .returned (.tuple #[.string (delS p s).1, .int .i64 (delS p s).2]) ∧ Below w.heap.size w w' := by
  have Q := hide (fun W => parts_c p hm W)
  unfold GivesP at Q
  have QG := hide (fun W => rgetpage_c p s hm W)
  cases hr : rightB p with
  | false =>
    rw [hr] at Q
    have hv : delS p s = (⟨#[]⟩, 1) := by
      unfold delS
      rw [hr]
      rfl
    rw [hv]
    clear hv hr
    go_enter Tryd.func45, Tryd.ntmps45
    go_wp2_with fail
    refine (Q.out _).mono ?_
    rintro e w2 ⟨x, y, z, A, n, cp, rfl, hb, hall⟩
    clear hall
    have HB := hide (hb.alloc hb.size (.cells #[.int .i64 x, .int .i64 y, .int .i64 z, .slice A n cp] 46))
    clear hb
    go_wp2_with fail
    go_ret2
    exact ⟨rfl, HB.out⟩
  | true =>
    rw [hr] at Q
    cases hg : (getS p s).2 with
    | false =>
      have hv : delS p s = (⟨#[]⟩, 21) := by
        unfold delS
        rw [if_pos hr, if_neg (by rw [hg]; decide)]
      rw [hv]
      generalize getS p s = g at *
      obtain ⟨g1, g2⟩ := g
      dsimp only at hg
      subst hg
      clear hv hr
      go_enter Tryd.func45, Tryd.ntmps45
      go_wp2_with fail
      refine (Q.out _).mono ?_
      rintro e w2 ⟨x, y, z, A, n, cp, rfl, hb, hall⟩
      clear hall
      have HB := hide (hb.alloc hb.size (.cells #[.int .i64 x, .int .i64 y, .int .i64 z, .slice A n cp] 46))
      clear hb
      go_wp2_with fail
      refine (QG.out _).mono ?_
      rintro e w4 ⟨rfl, hb⟩
      replace HB := hide (Bel.then HB.out hb)
      clear hb
      go_wp2_with fail
      go_ret2
      exact ⟨rfl, HB.out⟩
    | true =>
      obtain ⟨_, hs0, hlt, _, _⟩ := getS_yes hg
      have R := (rightP_iff p).mp hr
      obtain ⟨k, rfl⟩ : ∃ k : Nat, s = k := ⟨s.toNat, by omega⟩
      have hv := del_same hg
      rw [Int.toNat_natCast] at hv
      rw [← hv]
      have hlen := readC_len p
      have hn5 : (readC p).recs.length ≤ 123 := by rw [hlen]; have := R.gap; have := R.beg; omega
      have hsz : sizeN ((readC p).recs.take k ++ (readC p).recs.drop (k + 1)) ≤ 1048576 := by have h1 := readC_size R; have h2 := sizeN_erase (readC p).recs k; rw [List.eraseIdx_eq_take_drop_succ] at h2; omega
      have hkd := readC_kind p
      rw [Int.toNat_natCast] at hlt
      rw [← hlen] at hlt
      clear hv
      generalize readC p = C at *
      obtain ⟨x, y, z, l⟩ := C
      dsimp only at *
      have QL := hide (fun A n c W hW => rlaid_c x y z A n c (l.take k ++ l.drop (k + 1)) W hW hsz hkd)
      obtain ⟨M, hM⟩ : ∃ M, laidR ⟨x, y, z, l.take k ++ l.drop (k + 1)⟩ = M := ⟨_, rfl⟩
      have hM2 : laidR (withR ⟨x, y, z, l⟩ (l.take k ++ l.drop (k + 1))) = M := hM
      rw [hM2]
      rw [hM] at QL
      obtain ⟨L5, hL5⟩ : ∃ L5, l.take k ++ l.drop (k + 1) = L5 := ⟨_, rfl⟩
      rw [hL5] at QL
      have HLL5 := hide hL5
      clear hM hM2 hsz hL5
      obtain ⟨i0, hi0, hz0, hz1, hz2⟩ := info_parts str_info
      have hki2 : (k : Int) ≤ (l.length : Int) := by omega
      have hki3 : ((k + 1 : Nat) : Int) ≤ (l.length : Int) := by omega
      have hwk : IntKind.i64.wrap ((k : Int) + 1) = ((k + 1 : Nat) : Int) := by rw [IntWalk.i64_in _ (by omega)]; omega
      have HT1 := hide (show ((l.take k).map stC).flatten.length = k * 1 by rw [stC_flen, List.length_take]; omega)
      have HT2 := hide (show ((l.drop (k + 1)).map stC).flatten.length = (l.length - (k + 1)) * 1 by rw [stC_flen, List.length_drop])
      have HO1 := hide (stC_ones (l.take k))
      have HO2 := hide (stC_ones (l.drop (k + 1)))
      have HKT := hide (show (l.take k).length = k by rw [List.length_take]; omega)
      have HKD := hide (show (l.drop (k + 1)).length = l.length - (k + 1) by rw [List.length_drop])
      clear hr hlen R
      generalize getS p (k : Int) = g at *
      obtain ⟨g1, g2⟩ := g
      dsimp only at hg
      subst hg
      go_enter Tryd.func45, Tryd.ntmps45
      go_wp2_with fail
      refine (Q.out _).mono ?_
      rintro e w2 ⟨x', y', z', A, n', cp, rfl, hb, hall⟩
      obtain ⟨hx1, hx2, hx3, hx4, hown⟩ := hall (by trivial)
      subst x' y' z' n'
      have HS := hide (PtS.new (w := w) (c := ⟨x, y, z, l⟩) hown hb)
      clear hb hown hall Q
      go_upto_region 2 with (fail)
      try dsimp only at HS
      generalize w2.alloc (.cells #[.int .i64 x, .int .i64 y, .int .i64 z, .slice A l.length cp] 46) = w3 at *
      generalize w2.heap.size = gx at *
      go_wp2_with fail
      refine (QG.out _).mono ?_
      rintro e w4 ⟨rfl, hb⟩
      replace HS := hide (HS.out.kept hb)
      clear hb
      go_upto_region 8 with (fail)
      have HSL := hide HS.out.sl
      have hcap := HSL.out.cap
      have hnil : A = none → k = 0 := fun e => by have := HSL.out.nil e; (try dsimp only at this); omega
      dsimp only at HSL
      have HC1 := hide (HSL.out.takeC (j := k) (by omega))
      obtain ⟨c0, c1, c2, c3, f0, f1, f2, f3⟩ := HS.out.bx.cells
      dsimp only at c0 c1 c2 c3
      go_upto_region 9 with (at_builtin; refine wpList_app rfl (.tmp 26) (.tmp 30) 37 rfl w4.heap.size 9 i0 _ 1 16 Tryd.underlying37 hi0 hz0 hz1 hz2 rfl (by omega) _ 0 [] rfl (World.ownsRow_nil _ _ _ _) _ A k cp ((l.take k).map stC).flatten rfl HT1.out HC1.out HO1.out (by unfold maxLen; omega) (by omega) (Nat.le_refl _) hnil ?_; intro v5 w5 hown4 hg4 hat4; rw [Nat.zero_add, List.nil_append] at hown4)
      have HB4 := hide (own_grown (Below.refl w4.heap.size w4) hg4 (fun q hq => by cases hq))
      have HO5 := hide hown4
      clear hown4 hg4 hat4
      have HS6 := hide (HS.out.kept HB4.out)
      have HSL6 := hide (HSL.out.below HB4.out)
      have hc6 := HSL6.out.dropC (j := k + 1) (by omega)
      by_cases hck : cp = k + 1
      · subst hck
        rw [if_pos rfl] at hc6
        have hnil3 : A = none → 0 = 0 := fun e => rfl
        have HT2a := hide (show ((l.drop (k + 1)).map stC).flatten.length = 0 * 1 by rw [HT2.out]; omega)
        have HKDa := hide (show (l.drop (k + 1)).length = 0 by rw [HKD.out]; omega)
        have HC6 := hide hc6
        clear hc6 c0 c1 c2 c3 f0 f1 f2 f3
        obtain ⟨c0, c1, c2, c3, f0, f1, f2, f3⟩ := HS6.out.bx.cells
        dsimp only at c0 c1 c2 c3
        go_upto_region 10 with (at_builtin; refine wpList_app rfl (.tmp 32) (.tmp 37) 37 rfl w4.heap.size 9 i0 _ 1 16 Tryd.underlying37 hi0 hz0 hz1 hz2 rfl (by omega) _ k _ rfl HO5.out _ _ 0 _ ((l.drop (k + 1)).map stC).flatten rfl HT2a.out HC6.out HO2.out (by unfold maxLen; omega) (by omega) HB4.out.size hnil3 ?_; intro v7 w7 hown7 hg7 hat7; have hb7 := own_grown HB4.out hg7 (fun q hq => (World.ownsRow.lt HO5.out q hq).1); have hown : OwnS w7 w4.heap.size v7 L5 := HLL5.out ▸ OwnS.of_appL HKT.out HKDa.out hown7; obtain ⟨A5, c5, rfl, _⟩ := hown.sl; have hst := HS.out.renew hb7 hown; have HS2 := hide hst.2; have HX2 := hide hst.1; clear hst hown hown7 hg7 hat7 hb7; obtain ⟨e0, e1, e2, e3, z0, z1, z2, z3⟩ := HX2.out.cells; dsimp only at e0 e1 e2)
        clear e0 e1 e2 e3 z0 z1 z2 z3 c0 c1 c2 c3 f0 f1 f2 f3
        unfold withR at HS2
        dsimp only at HS2
        generalize World.setCell w7 ⟨gx, 3, none⟩ _ = w8 at *
        obtain ⟨c0, c1, c2, c3, f0, f1, f2, f3⟩ := HS2.out.bx.cells
        dsimp only at c0 c1 c2
        have HSL9 := hide HS2.out.sl
        have HB2 := hide HS2.out.hb
        clear HS2
        go_wp2_with fail
        refine (QL.out _ _ _ _ HSL9.out).mono ?_
        rintro e w9 ⟨rfl, hb⟩
        replace HB2 := hide (Bel.then HB2.out hb)
        clear hb
        go_wp2_with fail
        go_ret2
        exact ⟨rfl, HB2.out⟩
      · have hcki : ((k + 1 : Nat) : Int) ≤ (cp : Int) := by omega
        rw [if_neg hck] at hc6
        have hnil3 : Option.map (fun x => x.add (k + 1)) A = none → l.length - (k + 1) = 0 := fun e => by have := HSL.out.nil (by cases A with | none => rfl | some a => cases e); (try dsimp only at this); omega
        have HC6 := hide hc6
        clear hc6 c0 c1 c2 c3 f0 f1 f2 f3
        obtain ⟨c0, c1, c2, c3, f0, f1, f2, f3⟩ := HS6.out.bx.cells
        dsimp only at c0 c1 c2 c3
        go_upto_region 10 with (at_builtin; refine wpList_app rfl (.tmp 32) (.tmp 37) 37 rfl w4.heap.size 9 i0 _ 1 16 Tryd.underlying37 hi0 hz0 hz1 hz2 rfl (by omega) _ k _ rfl HO5.out _ _ (l.length - (k + 1)) _ ((l.drop (k + 1)).map stC).flatten rfl HT2.out HC6.out HO2.out (by unfold maxLen; omega) (by omega) HB4.out.size hnil3 ?_; intro v7 w7 hown7 hg7 hat7; have hb7 := own_grown HB4.out hg7 (fun q hq => (World.ownsRow.lt HO5.out q hq).1); have hown : OwnS w7 w4.heap.size v7 L5 := HLL5.out ▸ OwnS.of_appL HKT.out HKD.out hown7; obtain ⟨A5, c5, rfl, _⟩ := hown.sl; have hst := HS.out.renew hb7 hown; have HS2 := hide hst.2; have HX2 := hide hst.1; clear hst hown hown7 hg7 hat7 hb7; obtain ⟨e0, e1, e2, e3, z0, z1, z2, z3⟩ := HX2.out.cells; dsimp only at e0 e1 e2)
        clear e0 e1 e2 e3 z0 z1 z2 z3 c0 c1 c2 c3 f0 f1 f2 f3
        unfold withR at HS2
        dsimp only at HS2
        generalize World.setCell w7 ⟨gx, 3, none⟩ _ = w8 at *
        obtain ⟨c0, c1, c2, c3, f0, f1, f2, f3⟩ := HS2.out.bx.cells
        dsimp only at c0 c1 c2
        have HSL9 := hide HS2.out.sl
        have HB2 := hide HS2.out.hb
        clear HS2
        go_wp2_with fail
        refine (QL.out _ _ _ _ HSL9.out).mono ?_
        rintro e w9 ⟨rfl, hb⟩
        replace HB2 := hide (Bel.then HB2.out hb)
        clear hb
        go_wp2_with fail
        go_ret2
        exact ⟨rfl, HB2.out⟩
end Go.Proofs.YtfdedkcidemimaaDoor
