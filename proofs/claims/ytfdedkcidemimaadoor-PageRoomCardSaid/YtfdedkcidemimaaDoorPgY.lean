/- Pages: content.made. -/
import Derived.Test.YtfdedkcidemimaaDoorPgX
namespace Go.Proofs.YtfdedkcidemimaaDoor
set_option linter.unusedVariables false
set_option linter.unusedSimpArgs false
open Go.ChangeShapes Go.WideShapes Go.ChangeAt Go.RowKit

def trimN (l : List ByteArray) : Nat → Nat
  | 0 => 0
  | k + 1 => if (l.getD k .empty).size = 0 then trimN l k else k + 1
def madeS (c : CtV) : ByteArray × Int := if 512 < sizeN (c.recs.take (trimN c.recs c.recs.length)) then (⟨#[]⟩, 18) else (layL ⟨c.lsn, c.kind, c.link, c.recs.take (trimN c.recs c.recs.length)⟩, 0)
theorem SlAt.cut {w : World} {B : Nat} {A : Option Addr} {n c : Nat} {l : List ByteArray} (h : SlAt stC 1 w B A n c l) {j : Nat} (hj : j ≤ n) : SlAt stC 1 w B A j c (l.take j) := by
  refine ⟨by rw [List.length_take, h.len]; omega, by have := h.cap; omega, h.max, fun e => by have := h.nil e; omega, ⟨?_, ?_⟩⟩
  · intro xs hx
    obtain ⟨b, _, rfl⟩ := List.mem_map.1 hx
    rfl
  · intro hn
    have hn' : 0 < ((l.map stC).flatten).length := by
      rw [stC_flat] at hn ⊢
      simp at hn ⊢
      omega
    obtain ⟨b, off, e, hb, hc⟩ := h.recs.2 hn'
    refine ⟨b, off, e, hb, fun i u hu => hc i u ?_⟩
    rw [stC_flat] at hu ⊢
    rw [List.map_take, List.getElem?_take] at hu
    split at hu
    · exact hu
    · cases hu
theorem sizeN_take (l : List ByteArray) (k : Nat) : sizeN (l.take k) ≤ sizeN l := by
  have := sumS_take l k
  unfold sizeN
  rw [List.length_take]
  omega
set_option maxRecDepth 100000 in
theorem made_c (x y z : Int) (A : Option Addr) (n c : Nat) (l : List ByteArray) (w : World) (h : SlAt stC 1 w w.heap.size A n c l) (hn : sizeN l ≤ 1048576) (hy : 0 ≤ y ∧ y ≤ 255) : Calls Tryd.prog 63 #[.agg #[.int .i64 x, .int .i64 y, .int .i64 z, .slice A n c]] w fun e w' => e = .returned (.tuple #[.string (madeS ⟨x, y, z, l⟩).1, .int .i64 (madeS ⟨x, y, z, l⟩).2]) ∧ Below w.heap.size w w' := by
  have HL := hide h.len
  have hB := Bel.one w (.cells #[.int .i64 x, .int .i64 y, .int .i64 z, .slice A n c] 52)
  have H := hide h
  have HB0 := hide hB
  have HX0 := hide (cbx_new w x y z (.slice A n c))
  have hsub := hide (sizeN_take l)
  have hn3 : n ≤ 1048576 := by rw [← h.len]; unfold sizeN at hn; omega
  have hcap := h.cap
  obtain ⟨T, hT⟩ : ∃ T, trimN l n = T := ⟨_, rfl⟩
  have HT0 := hide hT
  obtain ⟨M, hM⟩ : ∃ M, madeS ⟨x, y, z, l⟩ = M := ⟨_, rfl⟩
  rw [hM]
  have HM := hide hM
  clear h hB hT hM
  go_enter Tryd.func63, Tryd.ntmps63
  go_upto_region 1 with (fail)
  generalize w.alloc (.cells #[.int .i64 x, .int .i64 y, .int .i64 z, .slice A n c] 52) = w1 at *
  obtain ⟨c0, c1, c2, c3, f0, f1, f2, f3⟩ := HX0.out.cells
  go_wp2_with fail
  clear c0 c1 c2 c3 f0 f1 f2 f3
  go_loopw [4] (fun i wr => ∃ k : Nat, k ≤ n ∧ i = .int .i64 k ∧ Hid (trimN l k = T) ∧ Hid (CBx wr w.heap.size x y z (.slice A k c)) ∧ Hid (Below w.heap.size w wr)) (fun i _ => (intOf i).toNat)
  case atStart => exact ⟨n, Nat.le_refl _, rfl, HT0, HX0, HB0⟩
  case round =>
    clear HX0 HB0
    obtain ⟨k, hk, rfl, HT, HX, HB⟩ := hrel
    rcases Nat.eq_zero_or_pos k with rfl | hpos
    · have hTK : T = 0 := HT.out.symm
      obtain ⟨c0, c1, c2, c3, f0, f1, f2, f3⟩ := HX.out.cells
      have hM : M = if 512 < sizeN (l.take (0)) then (⟨#[]⟩, 18) else (layL ⟨x, y, z, l.take (0)⟩, 0) := by
        rw [← HM.out]
        unfold madeS
        dsimp only
        rw [HL.out, HT0.out, hTK]
      have H5 := hide ((H.out.kept HB.out).cut (j := 0) (by omega))
      have hsz : sizeN (l.take (0)) ≤ 1048576 := by have := hsub.out (0); omega
      have QS := hide (fun W hW => size_c x y z A (0) c (l.take (0)) W hW hsz)
      have QB := hide (fun W hW h5 => bytes_c x y z A (0) c (l.take (0)) W hW h5 hy)
      generalize l.take (0) = l2 at *
      go_wp2_with fail
      refine (QS.out _ H5.out).mono ?_
      rintro e w4 ⟨rfl, hb⟩
      have HX4 := hide (HX.out.kept hb)
      replace HB := hide (Bel.then HB.out hb)
      replace H5 := hide (H5.out.kept hb)
      clear hb c0 c1 c2 c3 f0 f1 f2 f3
      obtain ⟨c0, c1, c2, c3, f0, f1, f2, f3⟩ := HX4.out.cells
      by_cases h512 : 512 < sizeN l2
      · rw [if_pos h512] at hM
        subst hM
        have h512i : (512 : Int) < (sizeN l2 : Int) := by omega
        go_wp2_with fail
        go_ret2
        exact ⟨rfl, HB.out⟩
      · rw [if_neg h512] at hM
        obtain ⟨LY, hLY⟩ : ∃ LY, layL ⟨x, y, z, l2⟩ = LY := ⟨_, rfl⟩
        have qb := QB.out
        simp only [hLY] at qb
        rw [hLY] at hM
        clear hLY
        subst hM
        have h512i : ¬ (512 : Int) < (sizeN l2 : Int) := by omega
        replace QB := hide (fun W hW => qb W hW (by omega))
        clear HM qb
        go_wp2_with fail
        refine (QB.out _ H5.out).mono ?_
        rintro e w5 ⟨rfl, hb⟩
        replace HB := hide (Bel.then HB.out hb)
        clear hb
        go_wp2_with fail
        go_ret2
        exact ⟨rfl, HB.out⟩
    · obtain ⟨j, rfl⟩ : ∃ j, k = j + 1 := ⟨k - 1, by omega⟩
      obtain ⟨b, off, r, rfl, _, hx, hc⟩ := (H.out.kept HB.out).at (by decide) (show j < n by omega)
      have d0 := hc 0 _ rfl
      simp only [Nat.mul_one, Nat.add_zero] at d0
      clear hc
      obtain ⟨c0, c1, c2, c3, f0, f1, f2, f3⟩ := HX.out.cells
      have hTT := HT.out
      unfold trimN at hTT
      have hgd : l.getD j .empty = r := by rw [List.getD_eq_getElem?_getD, hx]; rfl
      rw [hgd] at hTT
      have wj : IntKind.i64.wrap (((j + 1 : Nat) : Int) - 1) = (j : Int) := by rw [IntWalk.i64_in _ (by omega)]; omega
      by_cases hr : r.size = 0
      · rw [if_pos hr] at hTT
        have HT2 := hide hTT
        obtain rfl : r = ⟨#[]⟩ := by
          apply ByteArray.ext
          exact Array.eq_empty_of_size_eq_zero hr
        have HX2 := hide (HX.out.set3 (.slice (some ⟨b, off, none⟩) j c))
        have HB2 := hide (HB.out.setCell (p := ⟨w.heap.size, 3, none⟩) (Nat.le_refl _) (.slice (some ⟨b, off, none⟩) j c))
        clear hTT HT HX HB
        go_wp2_with fail
        go_roundw
        case rel => exact ⟨j, by omega, rfl, HT2, HX2, HB2⟩
        case measure => simp [intOf]
      · rw [if_neg hr] at hTT
        have hTK : T = j + 1 := hTT.symm
        have e1 : (r.toList == []) = false := by
          cases hq : r.toList with
          | nil => exact absurd (by have := congrArg List.length hq; rw [ByteArray.toList_eq] at this; simpa using this) hr
          | cons a t => rfl
        clear hTT HT
        have hM : M = if 512 < sizeN (l.take (j + 1)) then (⟨#[]⟩, 18) else (layL ⟨x, y, z, l.take (j + 1)⟩, 0) := by
          rw [← HM.out]
          unfold madeS
          dsimp only
          rw [HL.out, HT0.out, hTK]
        have H5 := hide ((H.out.kept HB.out).cut (j := j + 1) (by omega))
        have hsz : sizeN (l.take (j + 1)) ≤ 1048576 := by have := hsub.out (j + 1); omega
        have QS := hide (fun W hW => size_c x y z (some ⟨b, off, none⟩) (j + 1) c (l.take (j + 1)) W hW hsz)
        have QB := hide (fun W hW h5 => bytes_c x y z (some ⟨b, off, none⟩) (j + 1) c (l.take (j + 1)) W hW h5 hy)
        generalize l.take (j + 1) = l2 at *
        go_wp2_with fail
        refine (QS.out _ H5.out).mono ?_
        rintro e w4 ⟨rfl, hb⟩
        have HX4 := hide (HX.out.kept hb)
        replace HB := hide (Bel.then HB.out hb)
        replace H5 := hide (H5.out.kept hb)
        clear hb c0 c1 c2 c3 f0 f1 f2 f3
        obtain ⟨c0, c1, c2, c3, f0, f1, f2, f3⟩ := HX4.out.cells
        by_cases h512 : 512 < sizeN l2
        · rw [if_pos h512] at hM
          subst hM
          have h512i : (512 : Int) < (sizeN l2 : Int) := by omega
          go_wp2_with fail
          go_ret2
          exact ⟨rfl, HB.out⟩
        · rw [if_neg h512] at hM
          obtain ⟨LY, hLY⟩ : ∃ LY, layL ⟨x, y, z, l2⟩ = LY := ⟨_, rfl⟩
          have qb := QB.out
          simp only [hLY] at qb
          rw [hLY] at hM
          clear hLY
          subst hM
          have h512i : ¬ (512 : Int) < (sizeN l2 : Int) := by omega
          replace QB := hide (fun W hW => qb W hW (by omega))
          clear HM qb
          go_wp2_with fail
          refine (QB.out _ H5.out).mono ?_
          rintro e w5 ⟨rfl, hb⟩
          replace HB := hide (Bel.then HB.out hb)
          clear hb
          go_wp2_with fail
          go_ret2
          exact ⟨rfl, HB.out⟩
end Go.Proofs.YtfdedkcidemimaaDoor
