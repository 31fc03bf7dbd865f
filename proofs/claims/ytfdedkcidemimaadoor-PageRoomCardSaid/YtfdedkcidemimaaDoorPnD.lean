/- Pages: Del, Add. -/
import Derived.Test.YtfdedkcidemimaaDoorPnC
import Derived.Test.YtfdedkcidemimaaDoorPnI
namespace Go.Proofs.YtfdedkcidemimaaDoor
set_option linter.unusedVariables false
set_option linter.unusedSimpArgs false
open Go.ChangeShapes Go.WideShapes Go.ChangeAt Go.RowKit

def delS (p : ByteArray) (s : Int) : ByteArray × Int :=
  if rightB p = true then (if (getS p s).2 = true then madeS (withR (readC p) ((readC p).recs.eraseIdx s.toNat)) else (⟨#[]⟩, 21)) else (⟨#[]⟩, 1)
def padS (l : List ByteArray) (k : Nat) : List ByteArray := l ++ List.replicate (k - l.length) (⟨#[]⟩ : ByteArray)
def insP (l : List ByteArray) (k : Nat) (r : ByteArray) : List ByteArray := (padS l k).take k ++ r :: (padS l k).drop k
def addS (p : ByteArray) (s : Int) (r : ByteArray) : ByteArray × Int :=
  if rightB p = true ∧ 0 ≤ s ∧ isRec r = true then (if 128 ≤ s then (⟨#[]⟩, 18) else madeS (withR (readC p) (insP (readC p).recs s.toNat r))) else (⟨#[]⟩, 1)
theorem sizeN_erase (l : List ByteArray) (k : Nat) : sizeN (l.eraseIdx k) ≤ sizeN l := by
  have h1 : sumS (l.eraseIdx k) ≤ sumS l := by
    rw [List.eraseIdx_eq_take_drop_succ, sumS_append]
    have h2 := sumS_append (l.take (k + 1)) (l.drop (k + 1))
    rw [List.take_append_drop] at h2
    have h3 := sumS_append (l.take k) ((l.drop k).take 1)
    rw [← List.take_add] at h3
    omega
  have h2 := List.length_eraseIdx_le l k
  unfold sizeN
  omega
theorem insP_lt {l : List ByteArray} {k : Nat} {r : ByteArray} (h : k < l.length) : insP l k r = l.take k ++ r :: l.drop k := by
  unfold insP padS
  rw [show k - l.length = 0 by omega]
  simp
theorem insP_end {l : List ByteArray} {k j : Nat} {r : ByteArray} (h : l.length ≤ k) (hj : j = k - l.length) : insP l k r = l ++ List.replicate j ⟨#[]⟩ ++ [r] := by
  subst hj
  unfold insP padS
  rw [List.take_of_length_le (by simp; omega), List.drop_of_length_le (by simp; omega)]
theorem sumS_ins (l : List ByteArray) (k : Nat) (r : ByteArray) : sumS (insP l k r) = sumS l + r.size := by
  unfold insP
  rw [sumS_append]
  have h2 := sumS_append ((padS l k).take k) ((padS l k).drop k)
  rw [List.take_append_drop] at h2
  have h3 : sumS (padS l k) = sumS l := sumS_pad l _
  simp only [sumS]
  omega
theorem insP_len (l : List ByteArray) (k : Nat) (r : ByteArray) : (insP l k r).length = max l.length k + 1 := by
  unfold insP padS
  rw [List.length_append, List.length_cons, List.length_take, List.length_drop, List.length_append, List.length_replicate]
  omega
theorem sizeN_ins {l : List ByteArray} {k : Nat} {r : ByteArray} (h : sizeN l ≤ 100000) (hs : k < 128) (hr : r.size ≤ 4000) : sizeN (insP l k r) ≤ 1048576 := by
  have h1 := sumS_ins l k r
  have h2 := insP_len l k r
  unfold sizeN at *
  omega

set_option maxRecDepth 100000 in
theorem delpage_c (p : ByteArray) (s : Int) (hm : p.size ≤ 4000) (w : World) : Calls Tryd.prog 44 #[.string p, .int .i64 s] w fun e w' => e = .returned (.tuple #[.string (delS p s).1, .int .i64 (delS p s).2]) ∧ Below w.heap.size w w' := by
  cases hr : rightB p with
  | false =>
    have Q := hide (right_q p hm hr)
    have hv : delS p s = (⟨#[]⟩, 1) := by
      unfold delS
      rw [hr]
      rfl
    rw [hv]
    clear hv hr
    go_enter Tryd.func44, Tryd.ntmps44
    go_wp2_with fail
    refine (Q.out _).mono ?_
    rintro e w4 ⟨rfl, hb⟩
    have HB := hide hb
    clear hb
    go_wp2_with fail
    go_ret2
    exact ⟨rfl, HB.out⟩
  | true =>
    have Q := hide (right_q p hm hr)
    have QG := hide (fun W => getpage_c p s hm W)
    cases hg : (getS p s).2 with
    | false =>
      have hv : delS p s = (⟨#[]⟩, 21) := by
        unfold delS
        rw [if_pos hr, if_neg (by rw [hg]; decide)]
      rw [hv]
      generalize getS p s = g at *
      obtain ⟨g1, g2⟩ := g
      dsimp only at hg
      subst hg
      clear hv hr
      go_enter Tryd.func44, Tryd.ntmps44
      go_wp2_with fail
      refine (Q.out _).mono ?_
      rintro e w4 ⟨rfl, hb⟩
      have HB := hide hb
      clear hb
      go_wp2_with fail
      refine (QG.out _).mono ?_
      rintro e w6 ⟨rfl, hb⟩
      replace HB := hide (Bel.then HB.out hb)
      clear hb
      go_wp2_with fail
      go_ret2
      exact ⟨rfl, HB.out⟩
    | true =>
      obtain ⟨_, hs0, hsl, _, hgv⟩ := getS_yes hg
      have hv : delS p s = madeS (withR (readC p) ((readC p).recs.eraseIdx s.toNat)) := by unfold delS; rw [if_pos hr, if_pos hg]
      rw [hv]
      obtain ⟨k, rfl⟩ : ∃ k : Nat, s = k := ⟨s.toNat, by omega⟩
      rw [Int.toNat_natCast] at *
      have R := (rightP_iff p).mp hr
      have QR := hide (fun W => read_c p hm R W)
      have hlen := readC_len p
      have hsz : sizeN ((readC p).recs.eraseIdx k) ≤ 1048576 := by have h1 := readC_size R; have h2 := sizeN_erase (readC p).recs k; omega
      have hn5 : (readC p).recs.length ≤ 123 := by rw [hlen]; have := R.gap; have := R.beg; omega
      have hkd := readC_kind p
      rw [← hlen] at hsl
      rw [hgv] at QG
      generalize recAt p k = g1 at *
      generalize readC p = C at *
      obtain ⟨x, y, z, l⟩ := C
      dsimp only at hsz hkd hsl hn5
      have QM := hide (fun A n c W hW => made_c x y z A n c (l.eraseIdx k) W hW hsz hkd)
      obtain ⟨M, hM⟩ : ∃ M, madeS ⟨x, y, z, l.eraseIdx k⟩ = M := ⟨_, rfl⟩
      have hM2 : madeS (withR ⟨x, y, z, l⟩ (l.eraseIdx k)) = M := hM
      rw [hM2]
      rw [hM] at QM
      clear hr hv hg hgv R hlen hM hM2 hs0
      go_enter Tryd.func44, Tryd.ntmps44
      go_wp2_with fail
      refine (Q.out _).mono ?_
      rintro e w4 ⟨rfl, hb⟩
      have HB := hide hb
      clear hb
      go_wp2_with fail
      refine (QG.out _).mono ?_
      rintro e w6 ⟨rfl, hb⟩
      replace HB := hide (Bel.then HB.out hb)
      clear hb
      go_wp2_with fail
      refine (QR.out _).mono ?_
      rintro e w7 ⟨v, rfl, hown, hb⟩
      obtain ⟨A, cp, rfl, _⟩ := hown.sl
      have HS := hide (CtS.new (w := w) (c := ⟨x, y, z, l⟩) (hown.more HB.out.size) (Bel.then HB.out hb))
      clear hb hown HB
      go_upto_region 7 with (fail)
      generalize w7.alloc (.cells #[.int .i64 x, .int .i64 y, .int .i64 z, .slice A l.length cp] 52) = w8 at *
      generalize w7.heap.size = gx at *
      obtain ⟨g, cp2, e, _, _, _⟩ := HS.out.own.cells k hsl
      injection e with e1 e2 e3
      subst e1 e3
      clear e2
      have QD := hide (fun W h => delete_c w.heap.size g l.length cp l k W h hsl (by omega))
      have hwk : IntKind.i64.wrap ((k : Int) + 1) = ((k + 1 : Nat) : Int) := by rw [IntWalk.i64_in _ (by omega)]; omega
      obtain ⟨c0, c1, c2, c3, f0, f1, f2, f3⟩ := HS.out.bx.cells
      dsimp only at c0 c1 c2
      go_wp2_with fail
      refine (QD.out _ HS.out.own).mono ?_
      rintro e w9 ⟨v2, rfl, ho2, hat2, hg2⟩
      obtain ⟨A5, c5, rfl, _⟩ := ho2.sl
      have hst := HS.out.step ho2 hg2 (.inl hat2)
      have HS2 := hide hst.2
      clear c0 c1 c2 c3 f0 f1 f2 f3
      obtain ⟨c0, c1, c2, c3, f0, f1, f2, f3⟩ := hst.1.cells
      dsimp only at c0 c1 c2
      clear hst ho2 hat2 hg2 HS QD
      go_upto_region 8 with (fail)
      clear c0 c1 c2 c3 f0 f1 f2 f3
      generalize w9.setCell ⟨gx, 3, none⟩ _ = w10 at *
      have HSL := hide HS2.out.sl
      have HB2 := hide HS2.out.hb
      obtain ⟨c0, c1, c2, c3, f0, f1, f2, f3⟩ := HS2.out.bx.cells
      dsimp only at c0 c1 c2 c3
      clear HS2
      go_wp2_with fail
      refine (QM.out _ _ _ _ HSL.out).mono ?_
      rintro e w9 ⟨rfl, hb⟩
      replace HB2 := hide (Bel.then HB2.out hb)
      clear hb
      go_wp2_with fail
      go_ret2
      exact ⟨rfl, HB2.out⟩
set_option maxRecDepth 100000 in
theorem addpage_c (p : ByteArray) (s : Int) (r : ByteArray) (hm : p.size ≤ 4000) (hmr : r.size ≤ 4000) (w : World) : Calls Tryd.prog 40 #[.string p, .int .i64 s, .string r] w fun e w' => e = .returned (.tuple #[.string (addS p s r).1, .int .i64 (addS p s r).2]) ∧ Below w.heap.size w w' := by
  have QI := hide (fun W => isRecord_c r hmr W)
  cases hr : rightB p with
  | false =>
    have Q := hide (right_q p hm hr)
    have hv : addS p s r = (⟨#[]⟩, 1) := by
      unfold addS
      rw [hr]
      rfl
    rw [hv]
    clear hv hr
    go_enter Tryd.func40, Tryd.ntmps40
    go_wp2_with fail
    refine (Q.out _).mono ?_
    rintro e w4 ⟨rfl, hb⟩
    have HB := hide hb
    clear hb
    go_wp2_with fail
    go_ret2
    exact ⟨rfl, HB.out⟩
  | true =>
    have Q := hide (right_q p hm hr)
    by_cases hs0 : s < 0
    ·
      have hv : addS p s r = (⟨#[]⟩, 1) := by
        unfold addS
        rw [if_neg (by omega)]
      rw [hv]
      clear hv hr
      go_enter Tryd.func40, Tryd.ntmps40
      go_wp2_with fail
      refine (Q.out _).mono ?_
      rintro e w4 ⟨rfl, hb⟩
      have HB := hide hb
      clear hb
      go_wp2_with fail
      go_ret2
      exact ⟨rfl, HB.out⟩
    · cases hi : isRec r with
      | false =>
        have hv : addS p s r = (⟨#[]⟩, 1) := by
          unfold addS
          rw [hi]
          simp
        rw [hv]
        rw [hi] at QI
        clear hi
        clear hv hr
        go_enter Tryd.func40, Tryd.ntmps40
        go_wp2_with fail
        refine (Q.out _).mono ?_
        rintro e w4 ⟨rfl, hb⟩
        have HB := hide hb
        clear hb
        go_wp2_with fail
        refine (QI.out _).mono ?_
        rintro e w5 ⟨rfl, rfl⟩
        go_wp2_with fail
        go_ret2
        exact ⟨rfl, HB.out⟩
      | true =>
        rw [hi] at QI
        by_cases h128 : 128 ≤ s
        ·
          have hv : addS p s r = (⟨#[]⟩, 18) := by
            unfold addS
            rw [if_pos ⟨hr, by omega, hi⟩, if_pos h128]
          rw [hv]
          clear hi
          clear hv hr
          go_enter Tryd.func40, Tryd.ntmps40
          go_wp2_with fail
          refine (Q.out _).mono ?_
          rintro e w4 ⟨rfl, hb⟩
          have HB := hide hb
          clear hb
          go_wp2_with fail
          refine (QI.out _).mono ?_
          rintro e w5 ⟨rfl, rfl⟩
          go_wp2_with fail
          go_ret2
          exact ⟨rfl, HB.out⟩
        · have hv : addS p s r = madeS (withR (readC p) (insP (readC p).recs s.toNat r)) := by unfold addS; rw [if_pos ⟨hr, by omega, hi⟩, if_neg h128]
          rw [hv]
          obtain ⟨k, rfl⟩ : ∃ k : Nat, s = k := ⟨s.toNat, by omega⟩
          rw [Int.toNat_natCast] at *
          have R := (rightP_iff p).mp hr
          have QR := hide (fun W => read_c2 p hm R W)
          have hlen := readC_len p
          have hsz : sizeN (insP (readC p).recs k r) ≤ 1048576 := sizeN_ins (readC_size R) (by omega) hmr
          have hn5 : (readC p).recs.length ≤ 123 := by rw [hlen]; have := R.gap; have := R.beg; omega
          have hkd := readC_kind p
          generalize readC p = C at *
          obtain ⟨x, y, z, l⟩ := C
          dsimp only at hsz hkd hn5
          have QM := hide (fun A n c W hW => made_c x y z A n c (insP l k r) W hW hsz hkd)
          obtain ⟨M, hM⟩ : ∃ M, madeS ⟨x, y, z, insP l k r⟩ = M := ⟨_, rfl⟩
          have hM2 : madeS (withR ⟨x, y, z, l⟩ (insP l k r)) = M := hM
          rw [hM2]
          rw [hM] at QM
          clear hr hv R hlen hM hM2 hi hsz
          obtain ⟨i0, hi0, hz0, hz1, hz2⟩ := info_parts str_info
          go_enter Tryd.func40, Tryd.ntmps40
          go_wp2_with fail
          refine (Q.out _).mono ?_
          rintro e w4 ⟨rfl, hb⟩
          have HB := hide hb
          clear hb
          go_wp2_with fail
          refine (QI.out _).mono ?_
          rintro e w5 ⟨rfl, rfl⟩
          go_wp2_with fail
          refine (QR.out _).mono ?_
          rintro e w7 ⟨v, rfl, hown, hb, g0, rfl⟩
          have HS := hide (CtS.new (w := w) (c := ⟨x, y, z, l⟩) (hown.more HB.out.size) (Bel.then HB.out hb))
          clear hb hown HB
          go_upto_region 6 with (fail)
          generalize w7.alloc (.cells #[.int .i64 x, .int .i64 y, .int .i64 z, .slice (some ⟨g0, 0, none⟩) l.length l.length] 52) = w8 at *
          generalize w7.heap.size = gx at *
          have HX0 := hide (show ∃ j, l.length + j ≤ max l.length k ∧ ∃ v, (j = 0 → v = .slice (some ⟨g0, 0, none⟩) l.length l.length) ∧ CtS w gx ⟨x, y, z, l ++ List.replicate j ⟨#[]⟩⟩ v w8 from ⟨0, by omega, _, fun _ => rfl, by simpa using HS.out⟩)
          clear HS
          go_loopw [] (fun wr => ∃ j, l.length + j ≤ max l.length k ∧ ∃ v, (j = 0 → v = .slice (some ⟨g0, 0, none⟩) l.length l.length) ∧ Hid (CtS w gx ⟨x, y, z, l ++ List.replicate j ⟨#[]⟩⟩ v wr)) (fun wr => 200 - (match wr.cell? ⟨gx, 3, none⟩ with | some (.slice _ n _) => n | _ => 0))
          case atStart => exact HX0.out
          case round =>
            clear HX0
            obtain ⟨j, hj, v, hv0, HS⟩ := hrel
            obtain ⟨A2, cp2, rfl, hs2⟩ := HS.out.own.sl
            clear hs2
            have hml : (l ++ List.replicate j (⟨#[]⟩ : ByteArray)).length = l.length + j := by simp
            dsimp only at HS hv0 ⊢
            generalize hm2 : (l ++ List.replicate j (⟨#[]⟩ : ByteArray)).length = m at *
            by_cases hlt : m < k
            · have hlti : (m : Int) < (k : Int) := by omega
              have HLT := hide (show Cells (wr.alloc (.cells #[.string ⟨#[]⟩] 9)) (wr.heap.size + 1) (some ⟨wr.heap.size, 0, none⟩) [.string ⟨#[]⟩] from cells_lit wr _ _)
              have HS1 := hide (HS.out.kept (Bel.one wr (.cells #[.string ⟨#[]⟩] 9)))
              have HM := hide hm2
              have HML := hide hml
              have ho1 := HS1.out.own
              unfold OwnS at ho1
              dsimp only at ho1
              rw [hm2] at ho1
              have HO1 := hide ho1
              obtain ⟨c0, c1, c2, c3, f0, f1, f2, f3⟩ := HS.out.bx.cells
              obtain ⟨d0, d1, d2, d3, y0, y1, y2, y3⟩ := HS1.out.bx.cells
              dsimp only at c0 c1 c2 c3 d0 d1 d2 d3
              have hm150 : m ≤ 200 := by omega
              have HC3 := hide c3
              clear hm2 hml ho1 hv0
              go_wp2_with (at_builtin; refine wpList_app rfl (.tmp 31) (.tmp 32) 37 rfl w.heap.size 9 i0 _ 1 16 Tryd.underlying37 hi0 hz0 hz1 hz2 rfl (by omega) _ m _ rfl HO1.out _ _ 1 1 [.string ⟨#[]⟩] rfl rfl HLT.out (by simp [Value.oneCell']) (by unfold maxLen; omega) (by omega) HS1.out.hb.size (by simp) ?_; intro v5 w5 hown5 hg5 hat5; obtain ⟨A5, c5, rfl, hc5, hA5, _⟩ := own_form hown5; have hat6 : (Value.slice A5 (m + 1) c5).ownBlock = (Value.slice A2 m cp2).ownBlock ∨ _ := hat5; have hg6 : World.grownBy _ w5 (Value.slice A2 m cp2).ownBlock := hg5; have hst := HS1.out.step (OwnS.of_app HM.out hown5) hg6 hat6; have HS2 := hide hst.2; obtain ⟨e0, e1, e2, e3, z0, z1, z2, z3⟩ := hst.1.cells; dsimp only at e0 e1 e2; clear hown5 hg5 hat5 hst hat6 hg6)
              go_roundw
              case rel =>
                have hrr : l ++ List.replicate (j + 1) (⟨#[]⟩ : ByteArray) = l ++ List.replicate j ⟨#[]⟩ ++ [⟨#[]⟩] := by rw [List.replicate_succ', List.append_assoc]
                exact ⟨j + 1, by have := HML.out; omega, _, by omega, by rw [hrr]; exact HS2⟩
              case measure =>
                have h9 := (HS2.out.bx.cells).2.2.2.1
                have h8 := HC3.out
                simp [h9, h8]
                omega
            · have hlti : ¬ (m : Int) < (k : Int) := by omega
              by_cases hlk : k < l.length
              · obtain rfl : j = 0 := by omega
                have e := hv0 rfl
                injection e with e1 e2 e3
                subst e1 e3
                have hm3 : m = l.length := by omega
                have hrw : l.take k ++ r :: l.drop k = insP l k r := (insP_lt hlk).symm
                have hl0 : l ++ List.replicate 0 (⟨#[]⟩ : ByteArray) = l := by simp
                rw [hl0] at HS
                have HLT := hide (show (wr.alloc (.cells #[.string r] 9)).cell? ⟨wr.heap.size, 0, none⟩ = some (.string r) from cell_of_row _ _ 0 _ _ (0, 0) (heap_alloc_new wr _))
                have HS1 := hide (HS.out.kept (Bel.one wr (.cells #[.string r] 9)))
                obtain ⟨c0, c1, c2, c3, f0, f1, f2, f3⟩ := HS.out.bx.cells
                obtain ⟨d0, d1, d2, d3, y0, y1, y2, y3⟩ := HS1.out.bx.cells
                dsimp only at c0 c1 c2 c3 d0 d1 d2 d3
                have QD := hide (fun W vb (h : OwnS W w.heap.size (.slice (some ⟨g0, 0, none⟩) l.length l.length) l) hr => insert_lt w.heap.size g0 l.length l k vb r W h hlk (by omega) hr)
                rw [hm3] at *
                clear hv0 hml hm2 hm3 e2
                go_wp2_with fail
                refine (QD.out _ _ HS1.out.own HLT.out).mono ?_
                rintro e w9 ⟨v2, rfl, ho2, hat2, hg2⟩
                replace hat2 := Or.inr (a := v2.ownBlock = some g0) hat2
                rw [hrw] at ho2
                obtain ⟨A5, c5, rfl, _⟩ := ho2.sl
                have hst := HS1.out.step ho2 hg2 hat2
                have HS2 := hide hst.2
                clear c0 c1 c2 c3 f0 f1 f2 f3 d0 d1 d2 d3 y0 y1 y2 y3
                obtain ⟨c0, c1, c2, c3, f0, f1, f2, f3⟩ := hst.1.cells
                dsimp only at c0 c1 c2
                clear hst ho2 hat2 hg2 HS QD HS1 HLT
                go_upto_region 9 with (fail)
                clear c0 c1 c2 c3 f0 f1 f2 f3
                generalize w9.setCell ⟨gx, 3, none⟩ _ = w10 at *
                have HSL := hide HS2.out.sl
                have HB2 := hide HS2.out.hb
                obtain ⟨c0, c1, c2, c3, f0, f1, f2, f3⟩ := HS2.out.bx.cells
                dsimp only at c0 c1 c2 c3
                clear HS2
                go_wp2_with fail
                refine (QM.out _ _ _ _ HSL.out).mono ?_
                rintro e w9 ⟨rfl, hb⟩
                replace HB2 := hide (Bel.then HB2.out hb)
                clear hb
                go_wp2_with fail
                go_ret2
                exact ⟨rfl, HB2.out⟩
              · have hmk : m = k := by omega
                have hrw : l ++ List.replicate j (⟨#[]⟩ : ByteArray) ++ [r] = insP l k r := (insP_end (by omega) (by omega)).symm
                have HLT := hide (show (wr.alloc (.cells #[.string r] 9)).cell? ⟨wr.heap.size, 0, none⟩ = some (.string r) from cell_of_row _ _ 0 _ _ (0, 0) (heap_alloc_new wr _))
                have HS1 := hide (HS.out.kept (Bel.one wr (.cells #[.string r] 9)))
                obtain ⟨c0, c1, c2, c3, f0, f1, f2, f3⟩ := HS.out.bx.cells
                obtain ⟨d0, d1, d2, d3, y0, y1, y2, y3⟩ := HS1.out.bx.cells
                dsimp only at c0 c1 c2 c3 d0 d1 d2 d3
                have QD := hide (fun W vb (h : OwnS W w.heap.size (.slice A2 m cp2) (l ++ List.replicate j (⟨#[]⟩ : ByteArray))) hB hr hvb => insert_end w.heap.size _ (l ++ List.replicate j (⟨#[]⟩ : ByteArray)) vb r W h (by omega) hB hr hvb)
                rw [hm2] at QD
                subst hmk
                clear hv0
                have HML := hide hml
                have HM := hide hm2
                clear hml hm2
                go_wp2_with fail
                refine (QD.out _ _ HS1.out.own HS1.out.hb.size HLT.out (by rw [World.size_alloc]; omega)).mono ?_
                rintro e w9 ⟨v2, rfl, ho2, hat2, hg2⟩
                rw [hrw] at ho2
                obtain ⟨A5, c5, rfl, _⟩ := ho2.sl
                have hst := HS1.out.step ho2 hg2 hat2
                have HS2 := hide hst.2
                clear c0 c1 c2 c3 f0 f1 f2 f3 d0 d1 d2 d3 y0 y1 y2 y3
                obtain ⟨c0, c1, c2, c3, f0, f1, f2, f3⟩ := hst.1.cells
                dsimp only at c0 c1 c2
                clear hst ho2 hat2 hg2 HS QD HS1 HLT
                go_upto_region 9 with (fail)
                clear c0 c1 c2 c3 f0 f1 f2 f3
                generalize w9.setCell ⟨gx, 3, none⟩ _ = w10 at *
                have HSL := hide HS2.out.sl
                have HB2 := hide HS2.out.hb
                obtain ⟨c0, c1, c2, c3, f0, f1, f2, f3⟩ := HS2.out.bx.cells
                dsimp only at c0 c1 c2 c3
                clear HS2
                go_wp2_with fail
                refine (QM.out _ _ _ _ HSL.out).mono ?_
                rintro e w9 ⟨rfl, hb⟩
                replace HB2 := hide (Bel.then HB2.out hb)
                clear hb
                go_wp2_with fail
                go_ret2
                exact ⟨rfl, HB2.out⟩
end Go.Proofs.YtfdedkcidemimaaDoor
