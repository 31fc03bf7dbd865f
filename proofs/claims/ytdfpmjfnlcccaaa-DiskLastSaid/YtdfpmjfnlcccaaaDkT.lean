/- The walk of DiskLast. -/
import Derived.Test.YtdfpmjfnlcccaaaDkY
import Derived.Test.YtdfpmjfnlcccaaaNth
import Derived.Deep.Cut
namespace Go.Proofs.Ytdfpmjfnlcccaaa
set_option linter.unusedVariables false
open Go.ChangeShapes Go.WideShapes Go.ChangeAt Go.RowKit

def disk0 : DiskV := ⟨List.replicate 16 zeroS, -1, false⟩
theorem disk0_new : newD 16 = (disk0, 0) := rfl
theorem rep_cut (c : UInt8) (W : World) : (Instr.slice 9 (.string (repS 512 c)) none (some (.int .i64 128)) none).run Try.prog W = .ok (.string (repS 128 c)) W := by
  rw [run_slice_string_h (ht := Try.underlying9) (kh := .i64) (h := 128) (h0 := by omega) (h2 := by rw [repS_size]; omega)]
  have := sec_rep c 0 (by omega)
  unfold secOf at this
  rw [show (128 : Int).toNat = 128 from rfl]
  rw [show (0 + 1) * 128 = 128 from rfl, Nat.zero_mul] at this
  rw [this]
/-- What the law's four calls answer. -/
def LastF (at' other : Int) (b r : ByteArray) (ae ce re te : Int) (rs ts : ByteArray) : Prop :=
  (¬ (0 ≤ at' ∧ at' < 16) ∧ ae = 1 ∧ ce = 1 ∧ rs = .empty ∧ re = 1 ∧ ((¬ (0 ≤ other ∧ other < 16) ∧ te = 1) ∨ ((0 ≤ other ∧ other < 16) ∧ te = 0))) ∨
  ((0 ≤ at' ∧ at' < 16) ∧ ae = 0 ∧ re = 0 ∧ ((b.size = 128 ∧ ce = 0 ∧ b = rs) ∨ (b.size ≠ 128 ∧ ce = 1 ∧ r = rs)) ∧
    ((¬ (0 ≤ other ∧ other < 16) ∧ te = 1) ∨ (other = at' ∧ te = 0 ∧ rs = ts) ∨ ((0 ≤ other ∧ other < 16) ∧ other ≠ at' ∧ te = 0 ∧ zeroS = ts)))
theorem read_at (l : List ByteArray) (at' : Int) (h0 : 0 ≤ at') (h1 : at' < l.length) (x : Int) : readD ⟨l, x, false⟩ at' = (l.getD at'.toNat .empty, 0) := by
  unfold readD
  rw [if_neg (by simp), if_neg (by simp only; omega)]
theorem read_out (l : List ByteArray) (at' : Int) (h : ¬ (0 ≤ at' ∧ at' < l.length)) (x : Int) : readD ⟨l, x, false⟩ at' = (.empty, 1) := by
  unfold readD
  rw [if_neg (by simp), if_pos (by simp only; omega)]
theorem write_at (l : List ByteArray) (at' : Int) (b : ByteArray) (h0 : 0 ≤ at') (h1 : at' < l.length) (hb : b.size = 128) : writeD ⟨l, -1, false⟩ at' b = (⟨l.set at'.toNat b, -1, false⟩, 0) := by
  unfold writeD
  rw [if_neg (by simp), if_neg (by simp only; omega), if_neg (by simp)]
  simp
theorem write_bad (l : List ByteArray) (at' : Int) (b : ByteArray) (h : ¬ (0 ≤ at' ∧ at' < l.length) ∨ b.size ≠ 128) : writeD ⟨l, -1, false⟩ at' b = (⟨l, -1, false⟩, 1) := by
  unfold writeD
  rw [if_neg (by simp), if_pos (by simp only; omega)]
theorem last_f (at' other : Int) (b : ByteArray) :
    LastF at' other b (repS 128 120) (writeD disk0 at' (repS 128 120)).2 (writeD (writeD disk0 at' (repS 128 120)).1 at' b).2 (readD (writeD (writeD disk0 at' (repS 128 120)).1 at' b).1 at').2 (readD (writeD (writeD disk0 at' (repS 128 120)).1 at' b).1 other).2
      (readD (writeD (writeD disk0 at' (repS 128 120)).1 at' b).1 at').1 (readD (writeD (writeD disk0 at' (repS 128 120)).1 at' b).1 other).1 := by
  have hl : (List.replicate 16 zeroS).length = 16 := rfl
  generalize hr : repS 128 120 = r
  have hrz : r.size = 128 := by rw [← hr]; exact repS_size _ _
  clear hr
  by_cases h : 0 ≤ at' ∧ at' < 16
  · right
    refine ⟨h, ?_⟩
    have e1 : writeD disk0 at' r = (⟨(List.replicate 16 zeroS).set at'.toNat r, -1, false⟩, 0) := write_at _ _ _ h.1 (by rw [hl]; exact h.2) hrz
    rw [e1]
    simp only
    have hl1 : ((List.replicate 16 zeroS).set at'.toNat r).length = 16 := by simp
    obtain ⟨s, hs1, hs⟩ : ∃ s, ((b.size = 128 ∧ (writeD ⟨(List.replicate 16 zeroS).set at'.toNat r, -1, false⟩ at' b).2 = 0 ∧ b = s) ∨ (b.size ≠ 128 ∧ (writeD ⟨(List.replicate 16 zeroS).set at'.toNat r, -1, false⟩ at' b).2 = 1 ∧ r = s)) ∧ (writeD ⟨(List.replicate 16 zeroS).set at'.toNat r, -1, false⟩ at' b).1 = ⟨(List.replicate 16 zeroS).set at'.toNat s, -1, false⟩ := by
      by_cases hb : b.size = 128
      · refine ⟨b, Or.inl ⟨hb, ?_, rfl⟩, ?_⟩ <;> rw [write_at _ _ _ h.1 (by rw [hl1]; exact h.2) hb]
        rw [List.set_set]
      · refine ⟨r, Or.inr ⟨hb, ?_, rfl⟩, ?_⟩ <;> rw [write_bad _ _ _ (Or.inr hb)]
    have hl2 : ((List.replicate 16 zeroS).set at'.toNat s).length = 16 := by simp
    rw [hs, read_at _ _ h.1 (by rw [hl2]; exact h.2)]
    have hg : ((List.replicate 16 zeroS).set at'.toNat s).getD at'.toNat .empty = s := by
      rw [List.getD_eq_getElem?_getD, List.getElem?_set_self (by rw [hl]; omega)]
      rfl
    rw [hg]
    refine ⟨trivial, rfl, hs1, ?_⟩
    by_cases ho : 0 ≤ other ∧ other < 16
    · rw [read_at _ _ ho.1 (by rw [hl2]; exact ho.2)]
      right
      by_cases he : other = at'
      · left
        subst he
        exact ⟨rfl, rfl, hg.symm⟩
      · right
        refine ⟨ho, he, rfl, ?_⟩
        show zeroS = ((List.replicate 16 zeroS).set at'.toNat s).getD other.toNat .empty
        rw [List.getD_eq_getElem?_getD, List.getElem?_set_ne (by omega), List.getElem?_replicate, if_pos (by omega)]
        rfl
    · left
      refine ⟨ho, ?_⟩
      rw [read_out _ _ (by rw [hl2]; exact ho)]
  · left
    refine ⟨h, ?_⟩
    have e1 : writeD disk0 at' r = (disk0, 1) := write_bad _ _ _ (Or.inl (by rw [hl]; exact h))
    rw [e1]
    have e2 : writeD disk0 at' b = (disk0, 1) := write_bad _ _ _ (Or.inl (by rw [hl]; exact h))
    rw [e2]
    have e3 : readD disk0 at' = (.empty, 1) := read_out _ _ (by rw [hl]; exact h) _
    rw [e3]
    refine ⟨rfl, rfl, rfl, rfl, ?_⟩
    by_cases ho : 0 ≤ other ∧ other < 16
    · right
      refine ⟨ho, ?_⟩
      have e4 : readD disk0 other = _ := read_at _ _ ho.1 (by rw [hl]; exact ho.2) _
      rw [e4]
    · left
      refine ⟨ho, ?_⟩
      have e4 : readD disk0 other = _ := read_out _ _ (by rw [hl]; exact ho) _
      rw [e4]
set_option maxRecDepth 100000 in
set_option maxHeartbeats 4000000 in
theorem diskLast_w (at' other : Int) (b : ByteArray) (w : World) (hbz : b.size ≤ maxLen) :
    Calls Try.prog 6 #[.int .i64 at', .int .i64 other, .string b] w fun e w' => e = .returned (.bool true) ∧ Below w.heap.size w w' := by
  have QA := hide (fun W => awake_c W)
  have QN := hide (fun W => cNew (n := 16) (w := W) 16 rfl)
  rw [disk0_new] at QN
  have QP1 := hide (fun W => page_c 120 W)
  have QP0 := hide (fun W => page_c 0 W)
  have hp1 : ((120 : UInt8).toNat : Int) = 120 := rfl
  have hp0 : ((0 : UInt8).toNat : Int) = 0 := rfl
  rw [hp1] at QP1
  rw [hp0] at QP0
  clear hp1 hp0
  have hsl1 := rep_cut 120
  have hsl0 := rep_cut 0
  rw [← zeroS_rep] at hsl0
  have HF := last_f at' other b
  unfold LastF at HF
  replace HF := hide HF
  have hL1 : Left64 disk0 := newD_left 16
  have hL2 := writeD_left hL1 at' (repS 128 120)
  have QW1 := hide (fun A c W hW => cWrite (A := A) (n := 16) (c := c) (d := disk0) (w := W) at' (repS 128 120) hW (by omega) hL1)
  have QW2 := hide (fun A c W hW => cWrite (A := A) (n := 16) (c := c) (d := (writeD disk0 at' (repS 128 120)).1) (w := W) at' b hW (by omega) hL2)
  have QR1 := hide (fun A c W hW => cRead (A := A) (n := 16) (c := c) (d := (writeD (writeD disk0 at' (repS 128 120)).1 at' b).1) (w := W) at' hW (by omega))
  have QR2 := hide (fun A c W hW => cRead (A := A) (n := 16) (c := c) (d := (writeD (writeD disk0 at' (repS 128 120)).1 at' b).1) (w := W) other hW (by omega))
  unfold GivesN at QN QW1 QW2
  unfold GivesR at QR1 QR2
  clear hL1 hL2
  generalize readD (writeD (writeD disk0 at' (repS 128 120)).1 at' b).1 at' = xr at *
  generalize readD (writeD (writeD disk0 at' (repS 128 120)).1 at' b).1 other = xt at *
  generalize writeD (writeD disk0 at' (repS 128 120)).1 at' b = xc at *
  generalize writeD disk0 at' (repS 128 120) = xa at *
  generalize repS 128 120 = r at *
  generalize zeroS = z at *
  generalize repS 512 120 = p1 at *
  generalize repS 512 0 = p0 at *
  generalize disk0 = x0 at *
  obtain ⟨ns, nl, nd⟩ := x0
  obtain ⟨⟨xs, al, ad⟩, ae⟩ := xa
  obtain ⟨⟨cs, cl, cd⟩, ce⟩ := xc
  obtain ⟨rs, re⟩ := xr
  obtain ⟨ts, te⟩ := xt
  simp only at *
  have HB := hide (Below.refl w.heap.size w)
  go_enter Try.func6, Try.ntmps6
  go_wp2_with fail
  refine (QN.out _).mono ?_
  rintro e w' ⟨A1, c1, rfl, hS1, hb⟩
  replace HB := hide (Bel.then HB.out hb)
  clear hb
  go_upto_region 2 with (fail)
  have Xd := hide (dbox_new w' (.slice A1 16 c1) nl nd)
  have Sd := hide (hS1.kept (Bel.one w' (.cells #[.slice A1 16 c1, .int .i64 nl, .bool nd] 25)))
  replace HB := hide (Bel.alloc HB.out (.cells #[.slice A1 16 c1, .int .i64 nl, .bool nd] 25))
  generalize w'.alloc (.cells #[.slice A1 16 c1, .int .i64 nl, .bool nd] 25) = w2 at *
  generalize w'.heap.size = gd at *
  obtain ⟨w', hww⟩ : ∃ w', w' = w2 := ⟨_, rfl⟩
  subst hww
  clear hS1 QN
  refine wp_region_held_drew (S := fun w' => DBox w' gd (.slice A1 16 c1) nl nd) (by kernel_rfl) Xd.out (fun hHeld => ?_)
  have hb : Below w'.heap.size w' w'.drew := (Below.refl _ _).drew
  replace Xd := hide (Xd.out.kept hb)
  replace Sd := hide (Sd.out.kept hb)
  replace HB := hide (Bel.then HB.out hb)
  clear hb
  obtain ⟨d_0, d_1, d_2, d_3, d_4, d_5⟩ := Xd.out.cells
  first | (refine wpAnyH_take (i := 0) (v := ?_) nth0 (by kernel_rfl) (by kernel_rfl) (by kernel_rfl) (fun _ _ _ h => h) (Or.inl ⟨by rfl, ?_⟩) hHeld ?_; rotate_left; focus (intro wS hSw; obtain ⟨d_0, d_1, d_2, d_3, d_4, d_5⟩ := hSw.cells; go_simp; try with_reducible rfl; done)) | fail
  (try simp only [Act.put]); (try simp only [List.setIfInBounds_toArray]); (try simp only [List.set_cons_succ]); (try simp only [List.set_cons_zero])
  first | (refine wpAnyH_take (i := 1) (v := ?_) nth1 (by kernel_rfl) (by kernel_rfl) (by kernel_rfl) (fun _ _ _ h => h) (Or.inl ⟨by rfl, ?_⟩) hHeld ?_; rotate_left; focus (intro wS hSw; obtain ⟨d_0, d_1, d_2, d_3, d_4, d_5⟩ := hSw.cells; go_simp; try with_reducible rfl; done)) | fail
  (try simp only [Act.put]); (try simp only [List.setIfInBounds_toArray]); (try simp only [List.set_cons_succ]); (try simp only [List.set_cons_zero])
  refine wpAnyH_ready (rs := [2, 8]) (by kernel_rfl) (by simp) ?_
  refine (AllReadyH.cons nth2 (fun K hK => ?_) (AllReadyH.cons nth8 (fun K hK => ?_) AllReadyH.nil))
  · go_simp
    refine (QP1.out _).mono ?_
    rintro e w' ⟨rfl, hb⟩
    (try clear d_0 d_1 d_2 d_3 d_4 d_5)
    replace Xd := hide (Xd.out.kept hb)
    replace Sd := hide (Sd.out.kept hb)
    replace HB := hide (Bel.then HB.out hb)
    clear hb
    obtain ⟨d_0, d_1, d_2, d_3, d_4, d_5⟩ := Xd.out.cells
    refine hK.out _ _ Xd.out (fun hHeld => ?_)
    clear hK K
    (try simp only [Act.put]); (try simp only [List.setIfInBounds_toArray]); (try simp only [List.set_cons_succ]); (try simp only [List.set_cons_zero])
    first | (refine wpAnyH_take (i := 3) (v := ?_) nth3 (by kernel_rfl) (by kernel_rfl) (by kernel_rfl) (fun _ _ _ h => h) (Or.inl ⟨by rfl, ?_⟩) hHeld ?_; rotate_left; focus (intro wS hSw; obtain ⟨d_0, d_1, d_2, d_3, d_4, d_5⟩ := hSw.cells; go_simp; try with_reducible rfl; done)) | fail
    (try simp only [Act.put]); (try simp only [List.setIfInBounds_toArray]); (try simp only [List.set_cons_succ]); (try simp only [List.set_cons_zero])
    refine wpAnyH_ready (rs := [4, 8]) (by kernel_rfl) (by simp) ?_
    refine (AllReadyH.cons nth4 (fun K hK => ?_) (AllReadyH.cons nth8 (fun K hK => ?_) AllReadyH.nil))
    · go_simp
      refine (QW1.out _ _ _ Sd.out).mono ?_
      rintro e w' ⟨A3, c3, rfl, hS3, hb⟩
      (try clear d_0 d_1 d_2 d_3 d_4 d_5)
      replace Xd := hide (Xd.out.kept hb)
      replace Sd := hide (Sd.out.kept hb)
      replace HB := hide (Bel.then HB.out hb)
      have S3 := hide hS3
      clear hS3 hb
      obtain ⟨d_0, d_1, d_2, d_3, d_4, d_5⟩ := Xd.out.cells
      refine hK.out _ _ Xd.out (fun hHeld => ?_)
      clear hK K
      (try simp only [Act.put]); (try simp only [List.setIfInBounds_toArray]); (try simp only [List.set_cons_succ]); (try simp only [List.set_cons_zero])
      first | (refine wpAnyH_take (i := 5) (v := ?_) nth5 (by kernel_rfl) (by kernel_rfl) (by kernel_rfl) (fun _ _ _ h => h) (Or.inl ⟨by rfl, ?_⟩) hHeld ?_; rotate_left; focus (intro wS hSw; obtain ⟨d_0, d_1, d_2, d_3, d_4, d_5⟩ := hSw.cells; go_simp; try with_reducible rfl; done)) | fail
      (try simp only [Act.put]); (try simp only [List.setIfInBounds_toArray]); (try simp only [List.set_cons_succ]); (try simp only [List.set_cons_zero])
      first | (refine wpAnyH_take (i := 6) (v := ?_) nth6 (by kernel_rfl) (by kernel_rfl) (by kernel_rfl) (fun _ _ _ h => h) (Or.inl ⟨by rfl, ?_⟩) hHeld ?_; rotate_left; focus (intro wS hSw; obtain ⟨d_0, d_1, d_2, d_3, d_4, d_5⟩ := hSw.cells; go_simp; try with_reducible rfl; done)) | fail
      (try simp only [Act.put]); (try simp only [List.setIfInBounds_toArray]); (try simp only [List.set_cons_succ]); (try simp only [List.set_cons_zero])
      first | (refine wpAnyH_take (i := 7) (v := ?_) nth7 (by kernel_rfl) (by kernel_rfl) (by kernel_rfl) (fun _ _ _ h => h) (Or.inl ⟨by rfl, ?_⟩) hHeld ?_; rotate_left; focus (intro wS hSw; obtain ⟨d_0, d_1, d_2, d_3, d_4, d_5⟩ := hSw.cells; go_simp; try with_reducible rfl; done)) | fail
      (try simp only [Act.put]); (try simp only [List.setIfInBounds_toArray]); (try simp only [List.set_cons_succ]); (try simp only [List.set_cons_zero])
      refine wpAnyH_ready (rs := [8]) (by kernel_rfl) (by simp) ?_
      refine (AllReadyH.cons nth8 (fun K hK => ?_) AllReadyH.nil)
      go_simp
      refine hK.out _ _ (Xd.out.alloc (.cells #[.slice none 0 0, .int .i64 0, .bool false] 25)) (fun hHeld => ?_)
      clear hK K hHeld
      (try clear d_0 d_1 d_2 d_3 d_4 d_5)
      have hnda : gd ≠ w'.heap.size := by have h1 : gd < w'.heap.size := Xd.out.lt; omega
      have hwa : w.heap.size ≤ w'.heap.size := HB.out.size
      have hb : Below w'.heap.size w' (w'.alloc (.cells #[.slice none 0 0, .int .i64 0, .bool false] 25)) := Bel.one w' (.cells #[.slice none 0 0, .int .i64 0, .bool false] 25)
      replace Xd := hide (Xd.out.kept hb)
      replace Sd := hide (Sd.out.kept hb)
      replace S3 := hide (S3.out.kept hb)
      replace HB := hide (Bel.then HB.out hb)
      clear hb
      have Xa := hide (show DBox (w'.alloc (.cells #[.slice none 0 0, .int .i64 0, .bool false] 25)) w'.heap.size (.slice none 0 0) 0 false from dbox_new w' _ _ _)
      generalize w'.alloc (.cells #[.slice none 0 0, .int .i64 0, .bool false] 25) = w1 at *
      generalize w'.heap.size = ga at *
      obtain ⟨w', hww⟩ : ∃ w', w' = w1 := ⟨_, rfl⟩
      subst hww
      have hHeld := Xd.out
      obtain ⟨d_0, d_1, d_2, d_3, d_4, d_5⟩ := Xd.out.cells
      obtain ⟨a_0, a_1, a_2, a_3, a_4, a_5⟩ := Xa.out.cells
      (try simp only [Act.put]); (try simp only [List.setIfInBounds_toArray]); (try simp only [List.set_cons_succ]); (try simp only [List.set_cons_zero])
      refine wpAnyH_ready (rs := [9]) (by kernel_rfl) (by simp) ?_
      refine (AllReadyH.cons nth9 (fun K hK => ?_) AllReadyH.nil)
      go_simp
      have hX := Xa.out.set3 (.slice A3 16 c3) al ad
      have hD := far3 Xd.out hnda (.slice A3 16 c3) (.int .i64 al) (.bool ad)
      have hS := Sd.out.put (u := (.slice A3 16 c3)) (y := al) (b := ad) Xa.out (by intro s h; cases h) (by intro s h; cases h)
      have hS3 := S3.out.put (u := (.slice A3 16 c3)) (y := al) (b := ad) Xa.out (by intro s h; cases h) (by intro s h; cases h)
      have hB := below_set3 HB.out hwa (.slice A3 16 c3) (.int .i64 al) (.bool ad)
      (try clear d_0 d_1 d_2 d_3 d_4 d_5)
      (try clear a_0 a_1 a_2 a_3 a_4 a_5)
      refine hK.out _ _ hD (fun hHeld => ?_)
      clear hK K
      replace Xa := hide hX
      replace Xd := hide hD
      replace Sd := hide hS
      replace S3 := hide hS3
      replace HB := hide hB
      clear hX hD hS hS3 hB
      generalize ((w'.setCell ⟨ga, 0, none⟩ (.slice A3 16 c3)).setCell ⟨ga, 1, none⟩ (.int .i64 al)).setCell ⟨ga, 2, none⟩ (.bool ad) = w1 at *
      obtain ⟨w', hww⟩ : ∃ w', w' = w1 := ⟨_, rfl⟩
      subst hww
      obtain ⟨d_0, d_1, d_2, d_3, d_4, d_5⟩ := Xd.out.cells
      obtain ⟨a_0, a_1, a_2, a_3, a_4, a_5⟩ := Xa.out.cells
      (try simp only [Act.put]); (try simp only [List.setIfInBounds_toArray]); (try simp only [List.set_cons_succ]); (try simp only [List.set_cons_zero])
      first | (refine wpAnyH_take (i := 10) (v := ?_) nth10 (by kernel_rfl) (by kernel_rfl) (by kernel_rfl) (fun _ _ _ h => h) (Or.inl ⟨by rfl, ?_⟩) hHeld ?_; rotate_left; focus (intro wS hSw; obtain ⟨d_0, d_1, d_2, d_3, d_4, d_5⟩ := hSw.cells; go_simp; try with_reducible rfl; done)) | fail
      (try simp only [Act.put]); (try simp only [List.setIfInBounds_toArray]); (try simp only [List.set_cons_succ]); (try simp only [List.set_cons_zero])
      refine wpAnyH_done (by kernel_rfl) ?_ _
      go_wp2_with fail
      refine (QW2.out _ _ _ S3.out).mono ?_
      rintro e w' ⟨A4, c4, rfl, hS4, hb⟩
      (try clear d_0 d_1 d_2 d_3 d_4 d_5)
      (try clear a_0 a_1 a_2 a_3 a_4 a_5)
      replace Xd := hide (Xd.out.kept hb)
      replace Xa := hide (Xa.out.kept hb)
      replace Sd := hide (Sd.out.kept hb)
      replace S3 := hide (S3.out.kept hb)
      replace HB := hide (Bel.then HB.out hb)
      have S4 := hide hS4
      clear hS4
      clear hb
      obtain ⟨d_0, d_1, d_2, d_3, d_4, d_5⟩ := Xd.out.cells
      obtain ⟨a_0, a_1, a_2, a_3, a_4, a_5⟩ := Xa.out.cells
      go_upto_region 4 with (fail)
      (try clear d_0 d_1 d_2 d_3 d_4 d_5)
      (try clear a_0 a_1 a_2 a_3 a_4 a_5)
      have hX := dbox_new w' (.slice A4 16 c4) cl cd
      replace Xd := hide (Xd.out.kept (Bel.one w' (.cells #[.slice A4 16 c4, .int .i64 cl, .bool cd] 25)))
      replace Xa := hide (Xa.out.kept (Bel.one w' (.cells #[.slice A4 16 c4, .int .i64 cl, .bool cd] 25)))
      replace Sd := hide (Sd.out.kept (Bel.one w' (.cells #[.slice A4 16 c4, .int .i64 cl, .bool cd] 25)))
      replace S3 := hide (S3.out.kept (Bel.one w' (.cells #[.slice A4 16 c4, .int .i64 cl, .bool cd] 25)))
      replace S4 := hide (S4.out.kept (Bel.one w' (.cells #[.slice A4 16 c4, .int .i64 cl, .bool cd] 25)))
      replace HB := hide (Bel.then HB.out (Bel.one w' (.cells #[.slice A4 16 c4, .int .i64 cl, .bool cd] 25)))
      have Xc := hide hX
      clear hX
      generalize w'.alloc (.cells #[.slice A4 16 c4, .int .i64 cl, .bool cd] 25) = w2 at *
      generalize w'.heap.size = gc at *
      obtain ⟨d_0, d_1, d_2, d_3, d_4, d_5⟩ := Xd.out.cells
      obtain ⟨a_0, a_1, a_2, a_3, a_4, a_5⟩ := Xa.out.cells
      obtain ⟨c_0, c_1, c_2, c_3, c_4, c_5⟩ := Xc.out.cells
      go_wp2_with fail
      refine (QR1.out _ _ _ S4.out).mono ?_
      rintro e w' ⟨rfl, hb⟩
      (try clear d_0 d_1 d_2 d_3 d_4 d_5)
      (try clear a_0 a_1 a_2 a_3 a_4 a_5)
      (try clear c_0 c_1 c_2 c_3 c_4 c_5)
      replace Xd := hide (Xd.out.kept hb)
      replace Xa := hide (Xa.out.kept hb)
      replace Xc := hide (Xc.out.kept hb)
      replace Sd := hide (Sd.out.kept hb)
      replace S3 := hide (S3.out.kept hb)
      replace S4 := hide (S4.out.kept hb)
      replace HB := hide (Bel.then HB.out hb)
      clear hb
      obtain ⟨d_0, d_1, d_2, d_3, d_4, d_5⟩ := Xd.out.cells
      obtain ⟨a_0, a_1, a_2, a_3, a_4, a_5⟩ := Xa.out.cells
      obtain ⟨c_0, c_1, c_2, c_3, c_4, c_5⟩ := Xc.out.cells
      go_wp2_with fail
      refine (QR2.out _ _ _ S4.out).mono ?_
      rintro e w' ⟨rfl, hb⟩
      (try clear d_0 d_1 d_2 d_3 d_4 d_5)
      (try clear a_0 a_1 a_2 a_3 a_4 a_5)
      (try clear c_0 c_1 c_2 c_3 c_4 c_5)
      replace Xd := hide (Xd.out.kept hb)
      replace Xa := hide (Xa.out.kept hb)
      replace Xc := hide (Xc.out.kept hb)
      replace Sd := hide (Sd.out.kept hb)
      replace S3 := hide (S3.out.kept hb)
      replace S4 := hide (S4.out.kept hb)
      replace HB := hide (Bel.then HB.out hb)
      clear hb
      obtain ⟨d_0, d_1, d_2, d_3, d_4, d_5⟩ := Xd.out.cells
      obtain ⟨a_0, a_1, a_2, a_3, a_4, a_5⟩ := Xa.out.cells
      obtain ⟨c_0, c_1, c_2, c_3, c_4, c_5⟩ := Xc.out.cells
      go_wp2_with fail
      refine (QA.out _).mono ?_
      rintro e w' ⟨rfl, hb⟩
      (try clear d_0 d_1 d_2 d_3 d_4 d_5)
      (try clear a_0 a_1 a_2 a_3 a_4 a_5)
      (try clear c_0 c_1 c_2 c_3 c_4 c_5)
      replace Xd := hide (Xd.out.kept hb)
      replace Xa := hide (Xa.out.kept hb)
      replace Xc := hide (Xc.out.kept hb)
      replace Sd := hide (Sd.out.kept hb)
      replace S3 := hide (S3.out.kept hb)
      replace S4 := hide (S4.out.kept hb)
      replace HB := hide (Bel.then HB.out hb)
      clear hb
      obtain ⟨d_0, d_1, d_2, d_3, d_4, d_5⟩ := Xd.out.cells
      obtain ⟨a_0, a_1, a_2, a_3, a_4, a_5⟩ := Xa.out.cells
      obtain ⟨c_0, c_1, c_2, c_3, c_4, c_5⟩ := Xc.out.cells
      (try clear d_0 d_1 d_2 d_3 d_4 d_5)
      (try clear a_0 a_1 a_2 a_3 a_4 a_5)
      (try clear c_0 c_1 c_2 c_3 c_4 c_5)
      rcases HF.out with ⟨f0, f1, f2, f3, f4, ⟨f5, f6⟩ | ⟨f5, f6⟩⟩ | ⟨f0, f1, f2, ⟨f3, f4, f5⟩ | ⟨f3, f4, f5⟩, ⟨f6, f7⟩ | ⟨f6, f7, f8⟩ | ⟨f6, f7, f8, f9⟩⟩
      · subst f1 f2 f3 f4 f6
        by_cases g1 : 0 ≤ at' <;> by_cases g2 : at' < 16 <;> by_cases g3 : 0 ≤ other <;> by_cases g4 : other < 16 <;> (first | (exfalso; omega) | skip)
        clear f0
        all_goals (go_wp2_with (first | (go_at_call 16; with_reducible refine (QP1.out _).mono ?_; rintro e w3 ⟨rfl, hb⟩; replace HB := hide (Bel.then HB.out hb); clear hb) | (go_at_call 16; with_reducible refine (QP0.out _).mono ?_; rintro e w4 ⟨rfl, hb⟩; replace HB := hide (Bel.then HB.out hb); clear hb)))
        all_goals (go_ret; exact ⟨ret_bool (by first | rfl | (simp; done)), HB.out⟩)
      · subst f1 f2 f3 f4 f6
        by_cases g1 : 0 ≤ at' <;> by_cases g2 : at' < 16 <;> by_cases g3 : 0 ≤ other <;> by_cases g4 : other < 16 <;> (first | (exfalso; omega) | skip)
        clear f0
        all_goals (go_wp2_with (first | (go_at_call 16; with_reducible refine (QP1.out _).mono ?_; rintro e w3 ⟨rfl, hb⟩; replace HB := hide (Bel.then HB.out hb); clear hb) | (go_at_call 16; with_reducible refine (QP0.out _).mono ?_; rintro e w4 ⟨rfl, hb⟩; replace HB := hide (Bel.then HB.out hb); clear hb)))
        all_goals (go_ret; exact ⟨ret_bool (by first | rfl | (simp; done)), HB.out⟩)
      · subst f1 f2 f4 f5 f7
        have hz : ((b.size : Int) == 128) = true := by rw [beq_iff_eq]; omega
        by_cases g1 : 0 ≤ at' <;> by_cases g2 : at' < 16 <;> by_cases g3 : 0 ≤ other <;> by_cases g4 : other < 16 <;> (first | (exfalso; omega) | skip)
        clear f0
        all_goals (go_wp2_with (first | (go_at_call 16; with_reducible refine (QP1.out _).mono ?_; rintro e w3 ⟨rfl, hb⟩; replace HB := hide (Bel.then HB.out hb); clear hb) | (go_at_call 16; with_reducible refine (QP0.out _).mono ?_; rintro e w4 ⟨rfl, hb⟩; replace HB := hide (Bel.then HB.out hb); clear hb)))
        all_goals (go_ret; exact ⟨ret_bool (by first | rfl | (simp; done)), HB.out⟩)
      · subst f8 f1 f2 f4 f5 f7
        have hz : ((b.size : Int) == 128) = true := by rw [beq_iff_eq]; omega
        have hoa : (other == at') = true := by rw [beq_iff_eq]; exact f6
        by_cases g1 : 0 ≤ at' <;> by_cases g2 : at' < 16 <;> by_cases g3 : 0 ≤ other <;> by_cases g4 : other < 16 <;> (first | (exfalso; omega) | skip)
        clear f0
        all_goals (go_wp2_with (first | (go_at_call 16; with_reducible refine (QP1.out _).mono ?_; rintro e w3 ⟨rfl, hb⟩; replace HB := hide (Bel.then HB.out hb); clear hb) | (go_at_call 16; with_reducible refine (QP0.out _).mono ?_; rintro e w4 ⟨rfl, hb⟩; replace HB := hide (Bel.then HB.out hb); clear hb)))
        all_goals (go_ret; exact ⟨ret_bool (by first | rfl | (simp; done)), HB.out⟩)
      · subst f9 f1 f2 f4 f5 f8
        have hz : ((b.size : Int) == 128) = true := by rw [beq_iff_eq]; omega
        have hoa : (other == at') = false := by rw [beq_eq_false_iff_ne]; exact f7
        by_cases g1 : 0 ≤ at' <;> by_cases g2 : at' < 16 <;> by_cases g3 : 0 ≤ other <;> by_cases g4 : other < 16 <;> (first | (exfalso; omega) | skip)
        clear f0
        all_goals (go_wp2_with (first | (go_at_call 16; with_reducible refine (QP1.out _).mono ?_; rintro e w3 ⟨rfl, hb⟩; replace HB := hide (Bel.then HB.out hb); clear hb) | (go_at_call 16; with_reducible refine (QP0.out _).mono ?_; rintro e w4 ⟨rfl, hb⟩; replace HB := hide (Bel.then HB.out hb); clear hb)))
        all_goals (go_ret; exact ⟨ret_bool (by first | rfl | (simp; done) | (simp [f7]; done)), HB.out⟩)
      · subst f1 f2 f4 f5 f7
        have hz : ((b.size : Int) == 128) = false := by rw [beq_eq_false_iff_ne]; omega
        by_cases g1 : 0 ≤ at' <;> by_cases g2 : at' < 16 <;> by_cases g3 : 0 ≤ other <;> by_cases g4 : other < 16 <;> (first | (exfalso; omega) | skip)
        clear f0
        all_goals (go_wp2_with (first | (go_at_call 16; with_reducible refine (QP1.out _).mono ?_; rintro e w3 ⟨rfl, hb⟩; replace HB := hide (Bel.then HB.out hb); clear hb) | (go_at_call 16; with_reducible refine (QP0.out _).mono ?_; rintro e w4 ⟨rfl, hb⟩; replace HB := hide (Bel.then HB.out hb); clear hb)))
        all_goals (go_ret; exact ⟨ret_bool (by first | rfl | (simp; done)), HB.out⟩)
      · subst f8 f1 f2 f4 f5 f7
        have hz : ((b.size : Int) == 128) = false := by rw [beq_eq_false_iff_ne]; omega
        have hoa : (other == at') = true := by rw [beq_iff_eq]; exact f6
        by_cases g1 : 0 ≤ at' <;> by_cases g2 : at' < 16 <;> by_cases g3 : 0 ≤ other <;> by_cases g4 : other < 16 <;> (first | (exfalso; omega) | skip)
        clear f0
        all_goals (go_wp2_with (first | (go_at_call 16; with_reducible refine (QP1.out _).mono ?_; rintro e w3 ⟨rfl, hb⟩; replace HB := hide (Bel.then HB.out hb); clear hb) | (go_at_call 16; with_reducible refine (QP0.out _).mono ?_; rintro e w4 ⟨rfl, hb⟩; replace HB := hide (Bel.then HB.out hb); clear hb)))
        all_goals (go_ret; exact ⟨ret_bool (by first | rfl | (simp; done)), HB.out⟩)
      · subst f9 f1 f2 f4 f5 f8
        have hz : ((b.size : Int) == 128) = false := by rw [beq_eq_false_iff_ne]; omega
        have hoa : (other == at') = false := by rw [beq_eq_false_iff_ne]; exact f7
        by_cases g1 : 0 ≤ at' <;> by_cases g2 : at' < 16 <;> by_cases g3 : 0 ≤ other <;> by_cases g4 : other < 16 <;> (first | (exfalso; omega) | skip)
        clear f0
        all_goals (go_wp2_with (first | (go_at_call 16; with_reducible refine (QP1.out _).mono ?_; rintro e w3 ⟨rfl, hb⟩; replace HB := hide (Bel.then HB.out hb); clear hb) | (go_at_call 16; with_reducible refine (QP0.out _).mono ?_; rintro e w4 ⟨rfl, hb⟩; replace HB := hide (Bel.then HB.out hb); clear hb)))
        all_goals (go_ret; exact ⟨ret_bool (by first | rfl | (simp; done) | (simp [f7]; done)), HB.out⟩)
    · go_simp
      refine hK.out _ _ (Xd.out.alloc (.cells #[.slice none 0 0, .int .i64 0, .bool false] 25)) (fun hHeld => ?_)
      clear hK K hHeld
      (try clear d_0 d_1 d_2 d_3 d_4 d_5)
      have hnda : gd ≠ w'.heap.size := by have h1 : gd < w'.heap.size := Xd.out.lt; omega
      have hwa : w.heap.size ≤ w'.heap.size := HB.out.size
      have hb : Below w'.heap.size w' (w'.alloc (.cells #[.slice none 0 0, .int .i64 0, .bool false] 25)) := Bel.one w' (.cells #[.slice none 0 0, .int .i64 0, .bool false] 25)
      replace Xd := hide (Xd.out.kept hb)
      replace Sd := hide (Sd.out.kept hb)
      replace HB := hide (Bel.then HB.out hb)
      clear hb
      have Xa := hide (show DBox (w'.alloc (.cells #[.slice none 0 0, .int .i64 0, .bool false] 25)) w'.heap.size (.slice none 0 0) 0 false from dbox_new w' _ _ _)
      generalize w'.alloc (.cells #[.slice none 0 0, .int .i64 0, .bool false] 25) = w1 at *
      generalize w'.heap.size = ga at *
      obtain ⟨w', hww⟩ : ∃ w', w' = w1 := ⟨_, rfl⟩
      subst hww
      have hHeld := Xd.out
      obtain ⟨d_0, d_1, d_2, d_3, d_4, d_5⟩ := Xd.out.cells
      obtain ⟨a_0, a_1, a_2, a_3, a_4, a_5⟩ := Xa.out.cells
      (try simp only [Act.put]); (try simp only [List.setIfInBounds_toArray]); (try simp only [List.set_cons_succ]); (try simp only [List.set_cons_zero])
      refine wpAnyH_ready (rs := [4]) (by kernel_rfl) (by simp) ?_
      refine (AllReadyH.cons nth4 (fun K hK => ?_) AllReadyH.nil)
      go_simp
      refine (QW1.out _ _ _ Sd.out).mono ?_
      rintro e w' ⟨A3, c3, rfl, hS3, hb⟩
      (try clear d_0 d_1 d_2 d_3 d_4 d_5)
      (try clear a_0 a_1 a_2 a_3 a_4 a_5)
      replace Xd := hide (Xd.out.kept hb)
      replace Xa := hide (Xa.out.kept hb)
      replace Sd := hide (Sd.out.kept hb)
      replace HB := hide (Bel.then HB.out hb)
      have S3 := hide hS3
      clear hS3 hb
      obtain ⟨d_0, d_1, d_2, d_3, d_4, d_5⟩ := Xd.out.cells
      obtain ⟨a_0, a_1, a_2, a_3, a_4, a_5⟩ := Xa.out.cells
      refine hK.out _ _ Xd.out (fun hHeld => ?_)
      clear hK K
      (try simp only [Act.put]); (try simp only [List.setIfInBounds_toArray]); (try simp only [List.set_cons_succ]); (try simp only [List.set_cons_zero])
      first | (refine wpAnyH_take (i := 5) (v := ?_) nth5 (by kernel_rfl) (by kernel_rfl) (by kernel_rfl) (fun _ _ _ h => h) (Or.inl ⟨by rfl, ?_⟩) hHeld ?_; rotate_left; focus (intro wS hSw; obtain ⟨d_0, d_1, d_2, d_3, d_4, d_5⟩ := hSw.cells; go_simp; try with_reducible rfl; done)) | fail
      (try simp only [Act.put]); (try simp only [List.setIfInBounds_toArray]); (try simp only [List.set_cons_succ]); (try simp only [List.set_cons_zero])
      first | (refine wpAnyH_take (i := 6) (v := ?_) nth6 (by kernel_rfl) (by kernel_rfl) (by kernel_rfl) (fun _ _ _ h => h) (Or.inl ⟨by rfl, ?_⟩) hHeld ?_; rotate_left; focus (intro wS hSw; obtain ⟨d_0, d_1, d_2, d_3, d_4, d_5⟩ := hSw.cells; go_simp; try with_reducible rfl; done)) | fail
      (try simp only [Act.put]); (try simp only [List.setIfInBounds_toArray]); (try simp only [List.set_cons_succ]); (try simp only [List.set_cons_zero])
      first | (refine wpAnyH_take (i := 7) (v := ?_) nth7 (by kernel_rfl) (by kernel_rfl) (by kernel_rfl) (fun _ _ _ h => h) (Or.inl ⟨by rfl, ?_⟩) hHeld ?_; rotate_left; focus (intro wS hSw; obtain ⟨d_0, d_1, d_2, d_3, d_4, d_5⟩ := hSw.cells; go_simp; try with_reducible rfl; done)) | fail
      (try simp only [Act.put]); (try simp only [List.setIfInBounds_toArray]); (try simp only [List.set_cons_succ]); (try simp only [List.set_cons_zero])
      refine wpAnyH_ready (rs := [9]) (by kernel_rfl) (by simp) ?_
      refine (AllReadyH.cons nth9 (fun K hK => ?_) AllReadyH.nil)
      go_simp
      have hX := Xa.out.set3 (.slice A3 16 c3) al ad
      have hD := far3 Xd.out hnda (.slice A3 16 c3) (.int .i64 al) (.bool ad)
      have hS := Sd.out.put (u := (.slice A3 16 c3)) (y := al) (b := ad) Xa.out (by intro s h; cases h) (by intro s h; cases h)
      have hS3 := S3.out.put (u := (.slice A3 16 c3)) (y := al) (b := ad) Xa.out (by intro s h; cases h) (by intro s h; cases h)
      have hB := below_set3 HB.out hwa (.slice A3 16 c3) (.int .i64 al) (.bool ad)
      (try clear d_0 d_1 d_2 d_3 d_4 d_5)
      (try clear a_0 a_1 a_2 a_3 a_4 a_5)
      refine hK.out _ _ hD (fun hHeld => ?_)
      clear hK K
      replace Xa := hide hX
      replace Xd := hide hD
      replace Sd := hide hS
      replace S3 := hide hS3
      replace HB := hide hB
      clear hX hD hS hS3 hB
      generalize ((w'.setCell ⟨ga, 0, none⟩ (.slice A3 16 c3)).setCell ⟨ga, 1, none⟩ (.int .i64 al)).setCell ⟨ga, 2, none⟩ (.bool ad) = w1 at *
      obtain ⟨w', hww⟩ : ∃ w', w' = w1 := ⟨_, rfl⟩
      subst hww
      obtain ⟨d_0, d_1, d_2, d_3, d_4, d_5⟩ := Xd.out.cells
      obtain ⟨a_0, a_1, a_2, a_3, a_4, a_5⟩ := Xa.out.cells
      (try simp only [Act.put]); (try simp only [List.setIfInBounds_toArray]); (try simp only [List.set_cons_succ]); (try simp only [List.set_cons_zero])
      first | (refine wpAnyH_take (i := 10) (v := ?_) nth10 (by kernel_rfl) (by kernel_rfl) (by kernel_rfl) (fun _ _ _ h => h) (Or.inl ⟨by rfl, ?_⟩) hHeld ?_; rotate_left; focus (intro wS hSw; obtain ⟨d_0, d_1, d_2, d_3, d_4, d_5⟩ := hSw.cells; go_simp; try with_reducible rfl; done)) | fail
      (try simp only [Act.put]); (try simp only [List.setIfInBounds_toArray]); (try simp only [List.set_cons_succ]); (try simp only [List.set_cons_zero])
      refine wpAnyH_done (by kernel_rfl) ?_ _
      go_wp2_with fail
      refine (QW2.out _ _ _ S3.out).mono ?_
      rintro e w' ⟨A4, c4, rfl, hS4, hb⟩
      (try clear d_0 d_1 d_2 d_3 d_4 d_5)
      (try clear a_0 a_1 a_2 a_3 a_4 a_5)
      replace Xd := hide (Xd.out.kept hb)
      replace Xa := hide (Xa.out.kept hb)
      replace Sd := hide (Sd.out.kept hb)
      replace S3 := hide (S3.out.kept hb)
      replace HB := hide (Bel.then HB.out hb)
      have S4 := hide hS4
      clear hS4
      clear hb
      obtain ⟨d_0, d_1, d_2, d_3, d_4, d_5⟩ := Xd.out.cells
      obtain ⟨a_0, a_1, a_2, a_3, a_4, a_5⟩ := Xa.out.cells
      go_upto_region 4 with (fail)
      (try clear d_0 d_1 d_2 d_3 d_4 d_5)
      (try clear a_0 a_1 a_2 a_3 a_4 a_5)
      have hX := dbox_new w' (.slice A4 16 c4) cl cd
      replace Xd := hide (Xd.out.kept (Bel.one w' (.cells #[.slice A4 16 c4, .int .i64 cl, .bool cd] 25)))
      replace Xa := hide (Xa.out.kept (Bel.one w' (.cells #[.slice A4 16 c4, .int .i64 cl, .bool cd] 25)))
      replace Sd := hide (Sd.out.kept (Bel.one w' (.cells #[.slice A4 16 c4, .int .i64 cl, .bool cd] 25)))
      replace S3 := hide (S3.out.kept (Bel.one w' (.cells #[.slice A4 16 c4, .int .i64 cl, .bool cd] 25)))
      replace S4 := hide (S4.out.kept (Bel.one w' (.cells #[.slice A4 16 c4, .int .i64 cl, .bool cd] 25)))
      replace HB := hide (Bel.then HB.out (Bel.one w' (.cells #[.slice A4 16 c4, .int .i64 cl, .bool cd] 25)))
      have Xc := hide hX
      clear hX
      generalize w'.alloc (.cells #[.slice A4 16 c4, .int .i64 cl, .bool cd] 25) = w2 at *
      generalize w'.heap.size = gc at *
      obtain ⟨d_0, d_1, d_2, d_3, d_4, d_5⟩ := Xd.out.cells
      obtain ⟨a_0, a_1, a_2, a_3, a_4, a_5⟩ := Xa.out.cells
      obtain ⟨c_0, c_1, c_2, c_3, c_4, c_5⟩ := Xc.out.cells
      go_wp2_with fail
      refine (QR1.out _ _ _ S4.out).mono ?_
      rintro e w' ⟨rfl, hb⟩
      (try clear d_0 d_1 d_2 d_3 d_4 d_5)
      (try clear a_0 a_1 a_2 a_3 a_4 a_5)
      (try clear c_0 c_1 c_2 c_3 c_4 c_5)
      replace Xd := hide (Xd.out.kept hb)
      replace Xa := hide (Xa.out.kept hb)
      replace Xc := hide (Xc.out.kept hb)
      replace Sd := hide (Sd.out.kept hb)
      replace S3 := hide (S3.out.kept hb)
      replace S4 := hide (S4.out.kept hb)
      replace HB := hide (Bel.then HB.out hb)
      clear hb
      obtain ⟨d_0, d_1, d_2, d_3, d_4, d_5⟩ := Xd.out.cells
      obtain ⟨a_0, a_1, a_2, a_3, a_4, a_5⟩ := Xa.out.cells
      obtain ⟨c_0, c_1, c_2, c_3, c_4, c_5⟩ := Xc.out.cells
      go_wp2_with fail
      refine (QR2.out _ _ _ S4.out).mono ?_
      rintro e w' ⟨rfl, hb⟩
      (try clear d_0 d_1 d_2 d_3 d_4 d_5)
      (try clear a_0 a_1 a_2 a_3 a_4 a_5)
      (try clear c_0 c_1 c_2 c_3 c_4 c_5)
      replace Xd := hide (Xd.out.kept hb)
      replace Xa := hide (Xa.out.kept hb)
      replace Xc := hide (Xc.out.kept hb)
      replace Sd := hide (Sd.out.kept hb)
      replace S3 := hide (S3.out.kept hb)
      replace S4 := hide (S4.out.kept hb)
      replace HB := hide (Bel.then HB.out hb)
      clear hb
      obtain ⟨d_0, d_1, d_2, d_3, d_4, d_5⟩ := Xd.out.cells
      obtain ⟨a_0, a_1, a_2, a_3, a_4, a_5⟩ := Xa.out.cells
      obtain ⟨c_0, c_1, c_2, c_3, c_4, c_5⟩ := Xc.out.cells
      go_wp2_with fail
      refine (QA.out _).mono ?_
      rintro e w' ⟨rfl, hb⟩
      (try clear d_0 d_1 d_2 d_3 d_4 d_5)
      (try clear a_0 a_1 a_2 a_3 a_4 a_5)
      (try clear c_0 c_1 c_2 c_3 c_4 c_5)
      replace Xd := hide (Xd.out.kept hb)
      replace Xa := hide (Xa.out.kept hb)
      replace Xc := hide (Xc.out.kept hb)
      replace Sd := hide (Sd.out.kept hb)
      replace S3 := hide (S3.out.kept hb)
      replace S4 := hide (S4.out.kept hb)
      replace HB := hide (Bel.then HB.out hb)
      clear hb
      obtain ⟨d_0, d_1, d_2, d_3, d_4, d_5⟩ := Xd.out.cells
      obtain ⟨a_0, a_1, a_2, a_3, a_4, a_5⟩ := Xa.out.cells
      obtain ⟨c_0, c_1, c_2, c_3, c_4, c_5⟩ := Xc.out.cells
      (try clear d_0 d_1 d_2 d_3 d_4 d_5)
      (try clear a_0 a_1 a_2 a_3 a_4 a_5)
      (try clear c_0 c_1 c_2 c_3 c_4 c_5)
      rcases HF.out with ⟨f0, f1, f2, f3, f4, ⟨f5, f6⟩ | ⟨f5, f6⟩⟩ | ⟨f0, f1, f2, ⟨f3, f4, f5⟩ | ⟨f3, f4, f5⟩, ⟨f6, f7⟩ | ⟨f6, f7, f8⟩ | ⟨f6, f7, f8, f9⟩⟩
      · subst f1 f2 f3 f4 f6
        by_cases g1 : 0 ≤ at' <;> by_cases g2 : at' < 16 <;> by_cases g3 : 0 ≤ other <;> by_cases g4 : other < 16 <;> (first | (exfalso; omega) | skip)
        clear f0
        all_goals (go_wp2_with (first | (go_at_call 16; with_reducible refine (QP1.out _).mono ?_; rintro e w3 ⟨rfl, hb⟩; replace HB := hide (Bel.then HB.out hb); clear hb) | (go_at_call 16; with_reducible refine (QP0.out _).mono ?_; rintro e w4 ⟨rfl, hb⟩; replace HB := hide (Bel.then HB.out hb); clear hb)))
        all_goals (go_ret; exact ⟨ret_bool (by first | rfl | (simp; done)), HB.out⟩)
      · subst f1 f2 f3 f4 f6
        by_cases g1 : 0 ≤ at' <;> by_cases g2 : at' < 16 <;> by_cases g3 : 0 ≤ other <;> by_cases g4 : other < 16 <;> (first | (exfalso; omega) | skip)
        clear f0
        all_goals (go_wp2_with (first | (go_at_call 16; with_reducible refine (QP1.out _).mono ?_; rintro e w3 ⟨rfl, hb⟩; replace HB := hide (Bel.then HB.out hb); clear hb) | (go_at_call 16; with_reducible refine (QP0.out _).mono ?_; rintro e w4 ⟨rfl, hb⟩; replace HB := hide (Bel.then HB.out hb); clear hb)))
        all_goals (go_ret; exact ⟨ret_bool (by first | rfl | (simp; done)), HB.out⟩)
      · subst f1 f2 f4 f5 f7
        have hz : ((b.size : Int) == 128) = true := by rw [beq_iff_eq]; omega
        by_cases g1 : 0 ≤ at' <;> by_cases g2 : at' < 16 <;> by_cases g3 : 0 ≤ other <;> by_cases g4 : other < 16 <;> (first | (exfalso; omega) | skip)
        clear f0
        all_goals (go_wp2_with (first | (go_at_call 16; with_reducible refine (QP1.out _).mono ?_; rintro e w3 ⟨rfl, hb⟩; replace HB := hide (Bel.then HB.out hb); clear hb) | (go_at_call 16; with_reducible refine (QP0.out _).mono ?_; rintro e w4 ⟨rfl, hb⟩; replace HB := hide (Bel.then HB.out hb); clear hb)))
        all_goals (go_ret; exact ⟨ret_bool (by first | rfl | (simp; done)), HB.out⟩)
      · subst f8 f1 f2 f4 f5 f7
        have hz : ((b.size : Int) == 128) = true := by rw [beq_iff_eq]; omega
        have hoa : (other == at') = true := by rw [beq_iff_eq]; exact f6
        by_cases g1 : 0 ≤ at' <;> by_cases g2 : at' < 16 <;> by_cases g3 : 0 ≤ other <;> by_cases g4 : other < 16 <;> (first | (exfalso; omega) | skip)
        clear f0
        all_goals (go_wp2_with (first | (go_at_call 16; with_reducible refine (QP1.out _).mono ?_; rintro e w3 ⟨rfl, hb⟩; replace HB := hide (Bel.then HB.out hb); clear hb) | (go_at_call 16; with_reducible refine (QP0.out _).mono ?_; rintro e w4 ⟨rfl, hb⟩; replace HB := hide (Bel.then HB.out hb); clear hb)))
        all_goals (go_ret; exact ⟨ret_bool (by first | rfl | (simp; done)), HB.out⟩)
      · subst f9 f1 f2 f4 f5 f8
        have hz : ((b.size : Int) == 128) = true := by rw [beq_iff_eq]; omega
        have hoa : (other == at') = false := by rw [beq_eq_false_iff_ne]; exact f7
        by_cases g1 : 0 ≤ at' <;> by_cases g2 : at' < 16 <;> by_cases g3 : 0 ≤ other <;> by_cases g4 : other < 16 <;> (first | (exfalso; omega) | skip)
        clear f0
        all_goals (go_wp2_with (first | (go_at_call 16; with_reducible refine (QP1.out _).mono ?_; rintro e w3 ⟨rfl, hb⟩; replace HB := hide (Bel.then HB.out hb); clear hb) | (go_at_call 16; with_reducible refine (QP0.out _).mono ?_; rintro e w4 ⟨rfl, hb⟩; replace HB := hide (Bel.then HB.out hb); clear hb)))
        all_goals (go_ret; exact ⟨ret_bool (by first | rfl | (simp; done) | (simp [f7]; done)), HB.out⟩)
      · subst f1 f2 f4 f5 f7
        have hz : ((b.size : Int) == 128) = false := by rw [beq_eq_false_iff_ne]; omega
        by_cases g1 : 0 ≤ at' <;> by_cases g2 : at' < 16 <;> by_cases g3 : 0 ≤ other <;> by_cases g4 : other < 16 <;> (first | (exfalso; omega) | skip)
        clear f0
        all_goals (go_wp2_with (first | (go_at_call 16; with_reducible refine (QP1.out _).mono ?_; rintro e w3 ⟨rfl, hb⟩; replace HB := hide (Bel.then HB.out hb); clear hb) | (go_at_call 16; with_reducible refine (QP0.out _).mono ?_; rintro e w4 ⟨rfl, hb⟩; replace HB := hide (Bel.then HB.out hb); clear hb)))
        all_goals (go_ret; exact ⟨ret_bool (by first | rfl | (simp; done)), HB.out⟩)
      · subst f8 f1 f2 f4 f5 f7
        have hz : ((b.size : Int) == 128) = false := by rw [beq_eq_false_iff_ne]; omega
        have hoa : (other == at') = true := by rw [beq_iff_eq]; exact f6
        by_cases g1 : 0 ≤ at' <;> by_cases g2 : at' < 16 <;> by_cases g3 : 0 ≤ other <;> by_cases g4 : other < 16 <;> (first | (exfalso; omega) | skip)
        clear f0
        all_goals (go_wp2_with (first | (go_at_call 16; with_reducible refine (QP1.out _).mono ?_; rintro e w3 ⟨rfl, hb⟩; replace HB := hide (Bel.then HB.out hb); clear hb) | (go_at_call 16; with_reducible refine (QP0.out _).mono ?_; rintro e w4 ⟨rfl, hb⟩; replace HB := hide (Bel.then HB.out hb); clear hb)))
        all_goals (go_ret; exact ⟨ret_bool (by first | rfl | (simp; done)), HB.out⟩)
      · subst f9 f1 f2 f4 f5 f8
        have hz : ((b.size : Int) == 128) = false := by rw [beq_eq_false_iff_ne]; omega
        have hoa : (other == at') = false := by rw [beq_eq_false_iff_ne]; exact f7
        by_cases g1 : 0 ≤ at' <;> by_cases g2 : at' < 16 <;> by_cases g3 : 0 ≤ other <;> by_cases g4 : other < 16 <;> (first | (exfalso; omega) | skip)
        clear f0
        all_goals (go_wp2_with (first | (go_at_call 16; with_reducible refine (QP1.out _).mono ?_; rintro e w3 ⟨rfl, hb⟩; replace HB := hide (Bel.then HB.out hb); clear hb) | (go_at_call 16; with_reducible refine (QP0.out _).mono ?_; rintro e w4 ⟨rfl, hb⟩; replace HB := hide (Bel.then HB.out hb); clear hb)))
        all_goals (go_ret; exact ⟨ret_bool (by first | rfl | (simp; done) | (simp [f7]; done)), HB.out⟩)
  · go_simp
    refine hK.out _ _ (Xd.out.alloc (.cells #[.slice none 0 0, .int .i64 0, .bool false] 25)) (fun hHeld => ?_)
    clear hK K hHeld
    (try clear d_0 d_1 d_2 d_3 d_4 d_5)
    have hnda : gd ≠ w'.heap.size := by have h1 : gd < w'.heap.size := Xd.out.lt; omega
    have hwa : w.heap.size ≤ w'.heap.size := HB.out.size
    have hb : Below w'.drew.heap.size w'.drew ((w'.alloc (.cells #[.slice none 0 0, .int .i64 0, .bool false] 25)).drew) := Bel.one w'.drew (.cells #[.slice none 0 0, .int .i64 0, .bool false] 25)
    replace Xd := hide (Xd.out.kept hb)
    replace Sd := hide (Sd.out.kept hb)
    replace HB := hide (Bel.then HB.out hb)
    clear hb
    have Xa := hide (show DBox ((w'.alloc (.cells #[.slice none 0 0, .int .i64 0, .bool false] 25)).drew) w'.heap.size (.slice none 0 0) 0 false from dbox_new w' _ _ _)
    generalize (w'.alloc (.cells #[.slice none 0 0, .int .i64 0, .bool false] 25)).drew = w1 at *
    generalize w'.heap.size = ga at *
    obtain ⟨w', hww⟩ : ∃ w', w' = w1 := ⟨_, rfl⟩
    subst hww
    have hHeld := Xd.out
    obtain ⟨d_0, d_1, d_2, d_3, d_4, d_5⟩ := Xd.out.cells
    obtain ⟨a_0, a_1, a_2, a_3, a_4, a_5⟩ := Xa.out.cells
    (try simp only [Act.put]); (try simp only [List.setIfInBounds_toArray]); (try simp only [List.set_cons_succ]); (try simp only [List.set_cons_zero])
    refine wpAnyH_ready (rs := [2]) (by kernel_rfl) (by simp) ?_
    refine (AllReadyH.cons nth2 (fun K hK => ?_) AllReadyH.nil)
    go_simp
    refine (QP1.out _).mono ?_
    rintro e w' ⟨rfl, hb⟩
    (try clear d_0 d_1 d_2 d_3 d_4 d_5)
    (try clear a_0 a_1 a_2 a_3 a_4 a_5)
    replace Xd := hide (Xd.out.kept hb)
    replace Xa := hide (Xa.out.kept hb)
    replace Sd := hide (Sd.out.kept hb)
    replace HB := hide (Bel.then HB.out hb)
    clear hb
    obtain ⟨d_0, d_1, d_2, d_3, d_4, d_5⟩ := Xd.out.cells
    obtain ⟨a_0, a_1, a_2, a_3, a_4, a_5⟩ := Xa.out.cells
    refine hK.out _ _ Xd.out (fun hHeld => ?_)
    clear hK K
    (try simp only [Act.put]); (try simp only [List.setIfInBounds_toArray]); (try simp only [List.set_cons_succ]); (try simp only [List.set_cons_zero])
    first | (refine wpAnyH_take (i := 3) (v := ?_) nth3 (by kernel_rfl) (by kernel_rfl) (by kernel_rfl) (fun _ _ _ h => h) (Or.inl ⟨by rfl, ?_⟩) hHeld ?_; rotate_left; focus (intro wS hSw; obtain ⟨d_0, d_1, d_2, d_3, d_4, d_5⟩ := hSw.cells; go_simp; try with_reducible rfl; done)) | fail
    (try simp only [Act.put]); (try simp only [List.setIfInBounds_toArray]); (try simp only [List.set_cons_succ]); (try simp only [List.set_cons_zero])
    refine wpAnyH_ready (rs := [4]) (by kernel_rfl) (by simp) ?_
    refine (AllReadyH.cons nth4 (fun K hK => ?_) AllReadyH.nil)
    go_simp
    refine (QW1.out _ _ _ Sd.out).mono ?_
    rintro e w' ⟨A3, c3, rfl, hS3, hb⟩
    (try clear d_0 d_1 d_2 d_3 d_4 d_5)
    (try clear a_0 a_1 a_2 a_3 a_4 a_5)
    replace Xd := hide (Xd.out.kept hb)
    replace Xa := hide (Xa.out.kept hb)
    replace Sd := hide (Sd.out.kept hb)
    replace HB := hide (Bel.then HB.out hb)
    have S3 := hide hS3
    clear hS3 hb
    obtain ⟨d_0, d_1, d_2, d_3, d_4, d_5⟩ := Xd.out.cells
    obtain ⟨a_0, a_1, a_2, a_3, a_4, a_5⟩ := Xa.out.cells
    refine hK.out _ _ Xd.out (fun hHeld => ?_)
    clear hK K
    (try simp only [Act.put]); (try simp only [List.setIfInBounds_toArray]); (try simp only [List.set_cons_succ]); (try simp only [List.set_cons_zero])
    first | (refine wpAnyH_take (i := 5) (v := ?_) nth5 (by kernel_rfl) (by kernel_rfl) (by kernel_rfl) (fun _ _ _ h => h) (Or.inl ⟨by rfl, ?_⟩) hHeld ?_; rotate_left; focus (intro wS hSw; obtain ⟨d_0, d_1, d_2, d_3, d_4, d_5⟩ := hSw.cells; go_simp; try with_reducible rfl; done)) | fail
    (try simp only [Act.put]); (try simp only [List.setIfInBounds_toArray]); (try simp only [List.set_cons_succ]); (try simp only [List.set_cons_zero])
    first | (refine wpAnyH_take (i := 6) (v := ?_) nth6 (by kernel_rfl) (by kernel_rfl) (by kernel_rfl) (fun _ _ _ h => h) (Or.inl ⟨by rfl, ?_⟩) hHeld ?_; rotate_left; focus (intro wS hSw; obtain ⟨d_0, d_1, d_2, d_3, d_4, d_5⟩ := hSw.cells; go_simp; try with_reducible rfl; done)) | fail
    (try simp only [Act.put]); (try simp only [List.setIfInBounds_toArray]); (try simp only [List.set_cons_succ]); (try simp only [List.set_cons_zero])
    first | (refine wpAnyH_take (i := 7) (v := ?_) nth7 (by kernel_rfl) (by kernel_rfl) (by kernel_rfl) (fun _ _ _ h => h) (Or.inl ⟨by rfl, ?_⟩) hHeld ?_; rotate_left; focus (intro wS hSw; obtain ⟨d_0, d_1, d_2, d_3, d_4, d_5⟩ := hSw.cells; go_simp; try with_reducible rfl; done)) | fail
    (try simp only [Act.put]); (try simp only [List.setIfInBounds_toArray]); (try simp only [List.set_cons_succ]); (try simp only [List.set_cons_zero])
    refine wpAnyH_ready (rs := [9]) (by kernel_rfl) (by simp) ?_
    refine (AllReadyH.cons nth9 (fun K hK => ?_) AllReadyH.nil)
    go_simp
    have hX := Xa.out.set3 (.slice A3 16 c3) al ad
    have hD := far3 Xd.out hnda (.slice A3 16 c3) (.int .i64 al) (.bool ad)
    have hS := Sd.out.put (u := (.slice A3 16 c3)) (y := al) (b := ad) Xa.out (by intro s h; cases h) (by intro s h; cases h)
    have hS3 := S3.out.put (u := (.slice A3 16 c3)) (y := al) (b := ad) Xa.out (by intro s h; cases h) (by intro s h; cases h)
    have hB := below_set3 HB.out hwa (.slice A3 16 c3) (.int .i64 al) (.bool ad)
    (try clear d_0 d_1 d_2 d_3 d_4 d_5)
    (try clear a_0 a_1 a_2 a_3 a_4 a_5)
    refine hK.out _ _ hD (fun hHeld => ?_)
    clear hK K
    replace Xa := hide hX
    replace Xd := hide hD
    replace Sd := hide hS
    replace S3 := hide hS3
    replace HB := hide hB
    clear hX hD hS hS3 hB
    generalize ((w'.setCell ⟨ga, 0, none⟩ (.slice A3 16 c3)).setCell ⟨ga, 1, none⟩ (.int .i64 al)).setCell ⟨ga, 2, none⟩ (.bool ad) = w1 at *
    obtain ⟨w', hww⟩ : ∃ w', w' = w1 := ⟨_, rfl⟩
    subst hww
    obtain ⟨d_0, d_1, d_2, d_3, d_4, d_5⟩ := Xd.out.cells
    obtain ⟨a_0, a_1, a_2, a_3, a_4, a_5⟩ := Xa.out.cells
    (try simp only [Act.put]); (try simp only [List.setIfInBounds_toArray]); (try simp only [List.set_cons_succ]); (try simp only [List.set_cons_zero])
    first | (refine wpAnyH_take (i := 10) (v := ?_) nth10 (by kernel_rfl) (by kernel_rfl) (by kernel_rfl) (fun _ _ _ h => h) (Or.inl ⟨by rfl, ?_⟩) hHeld ?_; rotate_left; focus (intro wS hSw; obtain ⟨d_0, d_1, d_2, d_3, d_4, d_5⟩ := hSw.cells; go_simp; try with_reducible rfl; done)) | fail
    (try simp only [Act.put]); (try simp only [List.setIfInBounds_toArray]); (try simp only [List.set_cons_succ]); (try simp only [List.set_cons_zero])
    refine wpAnyH_done (by kernel_rfl) ?_ _
    go_wp2_with fail
    refine (QW2.out _ _ _ S3.out).mono ?_
    rintro e w' ⟨A4, c4, rfl, hS4, hb⟩
    (try clear d_0 d_1 d_2 d_3 d_4 d_5)
    (try clear a_0 a_1 a_2 a_3 a_4 a_5)
    replace Xd := hide (Xd.out.kept hb)
    replace Xa := hide (Xa.out.kept hb)
    replace Sd := hide (Sd.out.kept hb)
    replace S3 := hide (S3.out.kept hb)
    replace HB := hide (Bel.then HB.out hb)
    have S4 := hide hS4
    clear hS4
    clear hb
    obtain ⟨d_0, d_1, d_2, d_3, d_4, d_5⟩ := Xd.out.cells
    obtain ⟨a_0, a_1, a_2, a_3, a_4, a_5⟩ := Xa.out.cells
    go_upto_region 4 with (fail)
    (try clear d_0 d_1 d_2 d_3 d_4 d_5)
    (try clear a_0 a_1 a_2 a_3 a_4 a_5)
    have hX := dbox_new w' (.slice A4 16 c4) cl cd
    replace Xd := hide (Xd.out.kept (Bel.one w' (.cells #[.slice A4 16 c4, .int .i64 cl, .bool cd] 25)))
    replace Xa := hide (Xa.out.kept (Bel.one w' (.cells #[.slice A4 16 c4, .int .i64 cl, .bool cd] 25)))
    replace Sd := hide (Sd.out.kept (Bel.one w' (.cells #[.slice A4 16 c4, .int .i64 cl, .bool cd] 25)))
    replace S3 := hide (S3.out.kept (Bel.one w' (.cells #[.slice A4 16 c4, .int .i64 cl, .bool cd] 25)))
    replace S4 := hide (S4.out.kept (Bel.one w' (.cells #[.slice A4 16 c4, .int .i64 cl, .bool cd] 25)))
    replace HB := hide (Bel.then HB.out (Bel.one w' (.cells #[.slice A4 16 c4, .int .i64 cl, .bool cd] 25)))
    have Xc := hide hX
    clear hX
    generalize w'.alloc (.cells #[.slice A4 16 c4, .int .i64 cl, .bool cd] 25) = w2 at *
    generalize w'.heap.size = gc at *
    obtain ⟨d_0, d_1, d_2, d_3, d_4, d_5⟩ := Xd.out.cells
    obtain ⟨a_0, a_1, a_2, a_3, a_4, a_5⟩ := Xa.out.cells
    obtain ⟨c_0, c_1, c_2, c_3, c_4, c_5⟩ := Xc.out.cells
    go_wp2_with fail
    refine (QR1.out _ _ _ S4.out).mono ?_
    rintro e w' ⟨rfl, hb⟩
    (try clear d_0 d_1 d_2 d_3 d_4 d_5)
    (try clear a_0 a_1 a_2 a_3 a_4 a_5)
    (try clear c_0 c_1 c_2 c_3 c_4 c_5)
    replace Xd := hide (Xd.out.kept hb)
    replace Xa := hide (Xa.out.kept hb)
    replace Xc := hide (Xc.out.kept hb)
    replace Sd := hide (Sd.out.kept hb)
    replace S3 := hide (S3.out.kept hb)
    replace S4 := hide (S4.out.kept hb)
    replace HB := hide (Bel.then HB.out hb)
    clear hb
    obtain ⟨d_0, d_1, d_2, d_3, d_4, d_5⟩ := Xd.out.cells
    obtain ⟨a_0, a_1, a_2, a_3, a_4, a_5⟩ := Xa.out.cells
    obtain ⟨c_0, c_1, c_2, c_3, c_4, c_5⟩ := Xc.out.cells
    go_wp2_with fail
    refine (QR2.out _ _ _ S4.out).mono ?_
    rintro e w' ⟨rfl, hb⟩
    (try clear d_0 d_1 d_2 d_3 d_4 d_5)
    (try clear a_0 a_1 a_2 a_3 a_4 a_5)
    (try clear c_0 c_1 c_2 c_3 c_4 c_5)
    replace Xd := hide (Xd.out.kept hb)
    replace Xa := hide (Xa.out.kept hb)
    replace Xc := hide (Xc.out.kept hb)
    replace Sd := hide (Sd.out.kept hb)
    replace S3 := hide (S3.out.kept hb)
    replace S4 := hide (S4.out.kept hb)
    replace HB := hide (Bel.then HB.out hb)
    clear hb
    obtain ⟨d_0, d_1, d_2, d_3, d_4, d_5⟩ := Xd.out.cells
    obtain ⟨a_0, a_1, a_2, a_3, a_4, a_5⟩ := Xa.out.cells
    obtain ⟨c_0, c_1, c_2, c_3, c_4, c_5⟩ := Xc.out.cells
    go_wp2_with fail
    refine (QA.out _).mono ?_
    rintro e w' ⟨rfl, hb⟩
    (try clear d_0 d_1 d_2 d_3 d_4 d_5)
    (try clear a_0 a_1 a_2 a_3 a_4 a_5)
    (try clear c_0 c_1 c_2 c_3 c_4 c_5)
    replace Xd := hide (Xd.out.kept hb)
    replace Xa := hide (Xa.out.kept hb)
    replace Xc := hide (Xc.out.kept hb)
    replace Sd := hide (Sd.out.kept hb)
    replace S3 := hide (S3.out.kept hb)
    replace S4 := hide (S4.out.kept hb)
    replace HB := hide (Bel.then HB.out hb)
    clear hb
    obtain ⟨d_0, d_1, d_2, d_3, d_4, d_5⟩ := Xd.out.cells
    obtain ⟨a_0, a_1, a_2, a_3, a_4, a_5⟩ := Xa.out.cells
    obtain ⟨c_0, c_1, c_2, c_3, c_4, c_5⟩ := Xc.out.cells
    (try clear d_0 d_1 d_2 d_3 d_4 d_5)
    (try clear a_0 a_1 a_2 a_3 a_4 a_5)
    (try clear c_0 c_1 c_2 c_3 c_4 c_5)
    rcases HF.out with ⟨f0, f1, f2, f3, f4, ⟨f5, f6⟩ | ⟨f5, f6⟩⟩ | ⟨f0, f1, f2, ⟨f3, f4, f5⟩ | ⟨f3, f4, f5⟩, ⟨f6, f7⟩ | ⟨f6, f7, f8⟩ | ⟨f6, f7, f8, f9⟩⟩
    · subst f1 f2 f3 f4 f6
      by_cases g1 : 0 ≤ at' <;> by_cases g2 : at' < 16 <;> by_cases g3 : 0 ≤ other <;> by_cases g4 : other < 16 <;> (first | (exfalso; omega) | skip)
      clear f0
      all_goals (go_wp2_with (first | (go_at_call 16; with_reducible refine (QP1.out _).mono ?_; rintro e w3 ⟨rfl, hb⟩; replace HB := hide (Bel.then HB.out hb); clear hb) | (go_at_call 16; with_reducible refine (QP0.out _).mono ?_; rintro e w4 ⟨rfl, hb⟩; replace HB := hide (Bel.then HB.out hb); clear hb)))
      all_goals (go_ret; exact ⟨ret_bool (by first | rfl | (simp; done)), HB.out⟩)
    · subst f1 f2 f3 f4 f6
      by_cases g1 : 0 ≤ at' <;> by_cases g2 : at' < 16 <;> by_cases g3 : 0 ≤ other <;> by_cases g4 : other < 16 <;> (first | (exfalso; omega) | skip)
      clear f0
      all_goals (go_wp2_with (first | (go_at_call 16; with_reducible refine (QP1.out _).mono ?_; rintro e w3 ⟨rfl, hb⟩; replace HB := hide (Bel.then HB.out hb); clear hb) | (go_at_call 16; with_reducible refine (QP0.out _).mono ?_; rintro e w4 ⟨rfl, hb⟩; replace HB := hide (Bel.then HB.out hb); clear hb)))
      all_goals (go_ret; exact ⟨ret_bool (by first | rfl | (simp; done)), HB.out⟩)
    · subst f1 f2 f4 f5 f7
      have hz : ((b.size : Int) == 128) = true := by rw [beq_iff_eq]; omega
      by_cases g1 : 0 ≤ at' <;> by_cases g2 : at' < 16 <;> by_cases g3 : 0 ≤ other <;> by_cases g4 : other < 16 <;> (first | (exfalso; omega) | skip)
      clear f0
      all_goals (go_wp2_with (first | (go_at_call 16; with_reducible refine (QP1.out _).mono ?_; rintro e w3 ⟨rfl, hb⟩; replace HB := hide (Bel.then HB.out hb); clear hb) | (go_at_call 16; with_reducible refine (QP0.out _).mono ?_; rintro e w4 ⟨rfl, hb⟩; replace HB := hide (Bel.then HB.out hb); clear hb)))
      all_goals (go_ret; exact ⟨ret_bool (by first | rfl | (simp; done)), HB.out⟩)
    · subst f8 f1 f2 f4 f5 f7
      have hz : ((b.size : Int) == 128) = true := by rw [beq_iff_eq]; omega
      have hoa : (other == at') = true := by rw [beq_iff_eq]; exact f6
      by_cases g1 : 0 ≤ at' <;> by_cases g2 : at' < 16 <;> by_cases g3 : 0 ≤ other <;> by_cases g4 : other < 16 <;> (first | (exfalso; omega) | skip)
      clear f0
      all_goals (go_wp2_with (first | (go_at_call 16; with_reducible refine (QP1.out _).mono ?_; rintro e w3 ⟨rfl, hb⟩; replace HB := hide (Bel.then HB.out hb); clear hb) | (go_at_call 16; with_reducible refine (QP0.out _).mono ?_; rintro e w4 ⟨rfl, hb⟩; replace HB := hide (Bel.then HB.out hb); clear hb)))
      all_goals (go_ret; exact ⟨ret_bool (by first | rfl | (simp; done)), HB.out⟩)
    · subst f9 f1 f2 f4 f5 f8
      have hz : ((b.size : Int) == 128) = true := by rw [beq_iff_eq]; omega
      have hoa : (other == at') = false := by rw [beq_eq_false_iff_ne]; exact f7
      by_cases g1 : 0 ≤ at' <;> by_cases g2 : at' < 16 <;> by_cases g3 : 0 ≤ other <;> by_cases g4 : other < 16 <;> (first | (exfalso; omega) | skip)
      clear f0
      all_goals (go_wp2_with (first | (go_at_call 16; with_reducible refine (QP1.out _).mono ?_; rintro e w3 ⟨rfl, hb⟩; replace HB := hide (Bel.then HB.out hb); clear hb) | (go_at_call 16; with_reducible refine (QP0.out _).mono ?_; rintro e w4 ⟨rfl, hb⟩; replace HB := hide (Bel.then HB.out hb); clear hb)))
      all_goals (go_ret; exact ⟨ret_bool (by first | rfl | (simp; done) | (simp [f7]; done)), HB.out⟩)
    · subst f1 f2 f4 f5 f7
      have hz : ((b.size : Int) == 128) = false := by rw [beq_eq_false_iff_ne]; omega
      by_cases g1 : 0 ≤ at' <;> by_cases g2 : at' < 16 <;> by_cases g3 : 0 ≤ other <;> by_cases g4 : other < 16 <;> (first | (exfalso; omega) | skip)
      clear f0
      all_goals (go_wp2_with (first | (go_at_call 16; with_reducible refine (QP1.out _).mono ?_; rintro e w3 ⟨rfl, hb⟩; replace HB := hide (Bel.then HB.out hb); clear hb) | (go_at_call 16; with_reducible refine (QP0.out _).mono ?_; rintro e w4 ⟨rfl, hb⟩; replace HB := hide (Bel.then HB.out hb); clear hb)))
      all_goals (go_ret; exact ⟨ret_bool (by first | rfl | (simp; done)), HB.out⟩)
    · subst f8 f1 f2 f4 f5 f7
      have hz : ((b.size : Int) == 128) = false := by rw [beq_eq_false_iff_ne]; omega
      have hoa : (other == at') = true := by rw [beq_iff_eq]; exact f6
      by_cases g1 : 0 ≤ at' <;> by_cases g2 : at' < 16 <;> by_cases g3 : 0 ≤ other <;> by_cases g4 : other < 16 <;> (first | (exfalso; omega) | skip)
      clear f0
      all_goals (go_wp2_with (first | (go_at_call 16; with_reducible refine (QP1.out _).mono ?_; rintro e w3 ⟨rfl, hb⟩; replace HB := hide (Bel.then HB.out hb); clear hb) | (go_at_call 16; with_reducible refine (QP0.out _).mono ?_; rintro e w4 ⟨rfl, hb⟩; replace HB := hide (Bel.then HB.out hb); clear hb)))
      all_goals (go_ret; exact ⟨ret_bool (by first | rfl | (simp; done)), HB.out⟩)
    · subst f9 f1 f2 f4 f5 f8
      have hz : ((b.size : Int) == 128) = false := by rw [beq_eq_false_iff_ne]; omega
      have hoa : (other == at') = false := by rw [beq_eq_false_iff_ne]; exact f7
      by_cases g1 : 0 ≤ at' <;> by_cases g2 : at' < 16 <;> by_cases g3 : 0 ≤ other <;> by_cases g4 : other < 16 <;> (first | (exfalso; omega) | skip)
      clear f0
      all_goals (go_wp2_with (first | (go_at_call 16; with_reducible refine (QP1.out _).mono ?_; rintro e w3 ⟨rfl, hb⟩; replace HB := hide (Bel.then HB.out hb); clear hb) | (go_at_call 16; with_reducible refine (QP0.out _).mono ?_; rintro e w4 ⟨rfl, hb⟩; replace HB := hide (Bel.then HB.out hb); clear hb)))
      all_goals (go_ret; exact ⟨ret_bool (by first | rfl | (simp; done) | (simp [f7]; done)), HB.out⟩)
end Go.Proofs.Ytdfpmjfnlcccaaa
