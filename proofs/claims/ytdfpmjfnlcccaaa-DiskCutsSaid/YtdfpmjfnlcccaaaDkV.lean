/- The walk of DiskCuts. -/
import Derived.Test.YtdfpmjfnlcccaaaDkU
import Derived.Test.YtdfpmjfnlcccaaaNth
import Derived.Deep.Cut
import Derived.BigQuiet
namespace Go.Proofs.Ytdfpmjfnlcccaaa
set_option linter.unusedVariables false
open Go.ChangeShapes Go.WideShapes Go.ChangeAt Go.RowKit

theorem tab_ne {w : World} {g b N : Nat} {f : Nat → Value} {v : Value} {x : Int} {z : Bool} (h : TabAt w g 5 f N) (hx : DBox w b v x z) : g ≠ b := by
  intro e
  subst e
  unfold TabAt at h
  unfold DBox at hx
  rw [h] at hx
  injection hx with hx
  injection hx with _ ht
  exact absurd ht (by decide)
theorem tab_far3 {w : World} {g b N : Nat} {f : Nat → Value} {v : Value} {x : Int} {z : Bool} (h : TabAt w g 5 f N) (hx : DBox w b v x z) (p q r : Value) : TabAt (((w.setCell ⟨b, 0, none⟩ p).setCell ⟨b, 1, none⟩ q).setCell ⟨b, 2, none⟩ r) g 5 f N :=
  ((h.far (p := ⟨b, 0, none⟩) (tab_ne h hx) p).far (p := ⟨b, 1, none⟩) (tab_ne h hx) q).far (p := ⟨b, 2, none⟩) (tab_ne h hx) r
theorem tab_upd {w : World} {g P j T : Nat} {bs : Nat → UInt8} {cb : UInt8} (h : TabAt w g 5 (fun i => .int .u8 ((upd bs P j cb i).toNat : Int)) 80) (hT : P + j = T) : TabAt (w.setCell ⟨g, T, none⟩ (.int .u8 (cb.toNat : Int))) g 5 (fun i => .int .u8 ((upd bs P (j + 1) cb i).toNat : Int)) 80 := by
  subst hT
  refine (h.set (P + j) _).congr fun i _ => ?_
  rw [← upd_next]
  by_cases e : i = P + j
  · simp [e]
  · simp [e]
theorem wrap_byte (n : Int) : ∃ c : UInt8, IntKind.u8.wrap n = (c.toNat : Int) := by
  refine ⟨UInt8.ofNat (n % 256).toNat, ?_⟩
  rw [IntKind.wrap_u8]
  have : (UInt8.ofNat (n % 256).toNat).toNat = (n % 256).toNat % 256 := rfl
  omega
theorem sl_farT {w : World} {B g n c N : Nat} {A : Option Addr} {l : List ByteArray} {f : Nat → Value} {t : TypeId} (h : SlAt stC 1 w B A n c l) (hx : TabAt w g t f N) (hv : ∀ i s, f i ≠ .string s) (i : Nat) (u : Value) : SlAt stC 1 (w.setCell ⟨g, i, none⟩ u) B A n c l := by
  refine ⟨h.len, h.cap, h.max, h.nil, h.recs.1, fun hn => ?_⟩
  obtain ⟨b, off, e, hlt, hc⟩ := h.recs.2 hn
  have hne : b ≠ g := by
    intro e2
    subst e2
    have h0 : (l.map stC).flatten[0]? = some (((l.map stC).flatten)[0]'hn) := List.getElem?_eq_getElem hn
    have h1 := hc 0 _ h0
    have h2 := cell_of_row w b (off + 0) _ _ (0, 0) hx
    rw [h1] at h2
    have hm := List.getElem_mem hn
    obtain ⟨q, hq⟩ : ∃ q, ((l.map stC).flatten)[0]'hn = q := ⟨_, rfl⟩
    rw [hq] at h2 hm
    rw [stC_flat] at hm
    obtain ⟨s, _, hs⟩ := List.mem_map.1 hm
    rw [← hs] at h2
    by_cases ho : off + 0 < N
    · rw [tab_at f ho] at h2
      injection h2 with h2
      exact hv _ s h2.symm
    · have : (tab f N)[off + 0]? = none := by simp [tab]; omega
      rw [this] at h2
      cases h2
  refine ⟨b, off, e, hlt, fun i' u' hu => ?_⟩
  rw [World.cell?_of_block (Below.heap_setCell w ⟨g, i, none⟩ u b hne)]
  exact hc i' u' hu
set_option maxRecDepth 100000 in
set_option maxHeartbeats 4000000 in
theorem diskCuts_w (A : Option Addr) (n c : Nat) (zs : List Int) (m : Int) (w : World) (h : Ints w w.heap.size A n zs) (hcap : n ≤ maxLen) :
    Calls Try.prog 5 #[.slice A n c, .int .i64 m] w fun e w' => e = .returned (.bool true) ∧ Below w.heap.size w w' := by
  unfold maxLen at hcap
  have QA := hide (fun W => awake_c W)
  by_cases g1 : 20 < n
  · have g1i : (20 : Int) < n := by omega
    go_enter Try.func5, Try.ntmps5
    go_wp2_with fail
    refine (QA.out _).mono ?_
    rintro e w' ⟨rfl, hb⟩
    go_wp2_with fail
    go_ret
    exact ⟨rfl, hb⟩
  have g1i : ¬ (20 : Int) < n := by omega
  by_cases g2 : m < 0
  · go_enter Try.func5, Try.ntmps5
    go_wp2_with fail
    refine (QA.out _).mono ?_
    rintro e w' ⟨rfl, hb⟩
    go_wp2_with fail
    go_ret
    exact ⟨rfl, hb⟩
  by_cases g3 : 100 < m
  · go_enter Try.func5, Try.ntmps5
    go_wp2_with fail
    refine (QA.out _).mono ?_
    rintro e w' ⟨rfl, hb⟩
    go_wp2_with fail
    go_ret
    exact ⟨rfl, hb⟩
  obtain ⟨L0, rfl⟩ : ∃ L0 : Nat, m = L0 := ⟨m.toNat, by omega⟩
  have hL0 : L0 ≤ 100 := by omega
  have HI := hide h
  have QN := hide (fun W => cNew (n := 80) (w := W) 80 (by rw [cut_new]; exact secsOf_len _))
  rw [cut_new] at QN
  have QA1 := hide (fun A c W hW => cArm (A := A) (n := 80) (c := c) (d := ⟨secsOf (fun _ => 0), -1, false⟩) (w := W) (L0 : Int) hW (by omega))
  rw [cut_arm] at QA1
  unfold GivesN at QN
  unfold GivesK at QA1
  simp only at QN QA1
  have HB := hide (Below.refl w.heap.size w)
  clear h
  go_enter Try.func5, Try.ntmps5
  go_wp2_with fail
  refine (QN.out _).mono ?_
  rintro e w' ⟨A1, c1, rfl, hS1, hb⟩
  replace HB := hide (Bel.then HB.out hb)
  clear hb
  have hwd : w.heap.size ≤ w'.heap.size := HB.out.size
  go_upto_region 4 with (fail)
  have Xd := hide (dbox_new w' (.slice A1 80 c1) (-1) false)
  have Sd := hide (hS1.kept (Bel.one w' (.cells #[.slice A1 80 c1, .int .i64 (-1), .bool false] 25)))
  replace HB := hide (Bel.alloc HB.out (.cells #[.slice A1 80 c1, .int .i64 (-1), .bool false] 25))
  generalize w'.alloc (.cells #[.slice A1 80 c1, .int .i64 (-1), .bool false] 25) = w1 at *
  generalize w'.heap.size = gd at *
  clear hS1 QN
  obtain ⟨w', hww⟩ : ∃ w', w' = w1 := ⟨_, rfl⟩
  subst hww
  obtain ⟨d_0, d_1, d_2, d_3, d_4, d_5⟩ := Xd.out.cells
  go_wp2_with fail
  refine (QA1.out _ _ _ Sd.out).mono ?_
  rintro e w' ⟨A2, c2, rfl, hS2, hb⟩
  (try clear d_0 d_1 d_2 d_3 d_4 d_5)
  replace Xd := hide (Xd.out.kept hb)
  replace HB := hide (Bel.then HB.out hb)
  have S2 := hide hS2
  clear hS2 hb Sd QA1
  obtain ⟨d_0, d_1, d_2, d_3, d_4, d_5⟩ := Xd.out.cells
  go_upto_region 5 with (fail)
  have hX := Xd.out.set3 (.slice A2 80 c2) L0 false
  have hS2 := S2.out.put (u := (.slice A2 80 c2)) (y := L0) (b := false) Xd.out (by intro s h; cases h) (by intro s h; cases h)
  have hB := below_set3 HB.out hwd (.slice A2 80 c2) (.int .i64 L0) (.bool false)
  (try clear d_0 d_1 d_2 d_3 d_4 d_5)
  replace Xd := hide hX
  replace S2 := hide hS2
  replace HB := hide hB
  clear hX hB  hS2
  generalize ((w'.setCell ⟨gd, 0, none⟩ (.slice A2 80 c2)).setCell ⟨gd, 1, none⟩ (.int .i64 L0)).setCell ⟨gd, 2, none⟩ (.bool false) = w1 at *
  obtain ⟨w', hww⟩ : ∃ w', w' = w1 := ⟨_, rfl⟩
  subst hww
  have hwb : w.heap.size ≤ w'.heap.size := HB.out.size
  go_upto_region 6 with (at_make; refine wpList_make_tab _ rfl (.const (.int .i64 80)) (.const (.int .i64 80)) 43 rfl 5 (.int .u8 0) 1 Try.underlying43 u8_info rfl .i64 .i64 _ _ 80 rfl rfl rfl rfl (by omega) (by omega) ?_; intro w2 gb hg ht2 hb2 hz2; have TB := hide (ht2.congr (g := fun i => .int .u8 (((fun _ => 0 : Nat → UInt8) i).toNat : Int)) (fun i _ => rfl)); replace Xd := hide (Xd.out.kept hb2); replace S2 := hide (S2.out.kept hb2); replace HB := hide (Bel.then HB.out hb2); rw [hg] at hwb; clear ht2 hb2 hg hz2)
  go_wp2_with fail
  go_loopw [8, 9] (fun l i wr => ∃ (k L : Nat) (bs : Nat → UInt8) (A1 : Option Addr) (c1 : Nat), k ≤ n ∧ L ≤ 100 ∧ i = .int .i64 k ∧ l = .int .i64 L ∧ Hid (DBox wr gd (.slice A1 80 c1) L false) ∧ Hid (DkAt wr A1 80 c1 (secsOf bs)) ∧ Hid (TabAt wr gb 5 (fun i => .int .u8 ((bs i).toNat : Int)) 80) ∧ Hid (Below w.heap.size w wr)) (fun _ i _ => n - (intOf i).toNat)
  case atStart => exact ⟨0, L0, fun _ => 0, A2, c2, Nat.zero_le _, hL0, rfl, rfl, Xd, S2, TB, HB⟩
  case round =>
    obtain ⟨k, L, bs, A1, c1, hk, hL, rfl, rfl, Xd, Sd, TB, HB⟩ := hrel
    have hwk : IntKind.i64.wrap ((k : Int) + 1) = (k : Int) + 1 := IntWalk.i64_in _ (by omega)
    by_cases hlt : k < n
    · have hlti : (k : Int) < n := by omega
      obtain ⟨b0, off, x, rfl, hb0, x0, _, _⟩ := (HI.out.below HB.out).get hlt
      obtain ⟨P, hP, hm1, hm2⟩ := cut_at x
      obtain ⟨cb, hcb⟩ := wrap_byte ((k : Int) + 1)
      have QPg := hide (fun W => page_c cb W)
      have QG := hide (fun A c W hW => cWriteP (A := A) (n := 80) (c := c) (d := ⟨secsOf bs, L, false⟩) (w := W) (P : Int) (repS 512 cb) hW (by omega) ⟨(by omega : (-9223372036854775808 : Int) ≤ L), (by omega : (L : Int) ≤ 9223372036854775807)⟩)
      by_cases h4 : 4 ≤ L
      · rw [cut_write bs P L hP cb, if_pos h4] at QG
        generalize repS 512 cb = pg at *
        have hL1 : (4 : Int) ≤ L := by omega
        obtain ⟨M, hM⟩ : ∃ M : Nat, L - 4 = M := ⟨_, rfl⟩
        rw [hM] at QG
        unfold GivesN at QG
        simp only at QG
        obtain ⟨xl, xd, hxl, hxd, QG⟩ : ∃ (xl : Int) (xd : Bool), Hid (((M : Nat) : Int) = xl) ∧ Hid (false = xd) ∧ Hid (∀ (A : Option Addr) (c : Nat) (W : World), DkAt W A 80 c (secsOf bs) → Calls Try.prog 15 #[.agg #[.slice A 80 c, .int .i64 L, .bool false], .int .i64 P, .string pg] W fun e w' => ∃ A c, e = .returned (.tuple #[.agg #[.slice A 80 c, .int .i64 xl, .bool xd], .int .i64 0]) ∧ DkAt w' A 80 c (secsOf (upd bs P 4 cb)) ∧ Below W.heap.size W w') := ⟨_, _, rfl, rfl, QG⟩
        go_upto_region 11 with (fail)
        obtain ⟨w', hww⟩ : ∃ w', w' = wr := ⟨_, rfl⟩
        subst hww
        refine wp_region_held_drew (S := fun w' => DBox w' gd (.slice A1 80 c1) L false) (by kernel_rfl) Xd.out (fun hHeld => ?_)
        have hb : Below w'.heap.size w' w'.drew := (Below.refl _ _).drew
        replace Xd := hide (Xd.out.kept hb)
        replace Sd := hide (Sd.out.kept hb)
        replace TB := hide (TB.out.kept hb)
        replace HB := hide (Bel.then HB.out hb)
        clear hb x0
        obtain ⟨d_0, d_1, d_2, d_3, d_4, d_5⟩ := Xd.out.cells
        first | (refine wpAnyH_take (i := 0) (v := ?_) nth0 (by kernel_rfl) (by kernel_rfl) (by kernel_rfl) (fun _ _ _ h => h) (Or.inl ⟨by rfl, ?_⟩) hHeld ?_; rotate_left; focus (intro wS hSw; obtain ⟨d_0, d_1, d_2, d_3, d_4, d_5⟩ := hSw.cells; go_simp; try with_reducible rfl; done)) | fail
        (try simp only [Act.put]); (try simp only [List.setIfInBounds_toArray]); (try simp only [List.set_cons_succ]); (try simp only [List.set_cons_zero])
        first | (refine wpAnyH_take (i := 1) (v := ?_) nth1 (by kernel_rfl) (by kernel_rfl) (by kernel_rfl) (fun _ _ _ h => h) (Or.inl ⟨by rfl, ?_⟩) hHeld ?_; rotate_left; focus (intro wS hSw; obtain ⟨d_0, d_1, d_2, d_3, d_4, d_5⟩ := hSw.cells; go_simp; try with_reducible rfl; done)) | fail
        (try simp only [Act.put]); (try simp only [List.setIfInBounds_toArray]); (try simp only [List.set_cons_succ]); (try simp only [List.set_cons_zero])
        first | (refine wpAnyH_take (i := 2) (v := ?_) nth2 (by kernel_rfl) (by kernel_rfl) (by kernel_rfl) (fun _ _ _ h => h) (Or.inl ⟨by rfl, ?_⟩) hHeld ?_; rotate_left; focus (intro wS hSw; obtain ⟨d_0, d_1, d_2, d_3, d_4, d_5⟩ := hSw.cells; go_simp; try with_reducible rfl; done)) | fail
        (try simp only [Act.put]); (try simp only [List.setIfInBounds_toArray]); (try simp only [List.set_cons_succ]); (try simp only [List.set_cons_zero])
        first | (refine wpAnyH_take (i := 3) (v := ?_) nth3 (by kernel_rfl) (by kernel_rfl) (by kernel_rfl) (fun _ _ _ h => h) (Or.inl ⟨by rfl, ?_⟩) hHeld ?_; rotate_left; focus (intro wS hSw; obtain ⟨d_0, d_1, d_2, d_3, d_4, d_5⟩ := hSw.cells; go_simp; try with_reducible rfl; done)) | fail
        (try simp only [Act.put]); (try simp only [List.setIfInBounds_toArray]); (try simp only [List.set_cons_succ]); (try simp only [List.set_cons_zero])
        first | (refine wpAnyH_take (i := 4) (v := ?_) nth4 (by kernel_rfl) (by kernel_rfl) (by kernel_rfl) (fun _ _ _ h => h) (Or.inl ⟨by rfl, ?_⟩) hHeld ?_; rotate_left; focus (intro wS hSw; obtain ⟨d_0, d_1, d_2, d_3, d_4, d_5⟩ := hSw.cells; go_simp; try with_reducible rfl; done)) | fail
        (try simp only [Act.put]); (try simp only [List.setIfInBounds_toArray]); (try simp only [List.set_cons_succ]); (try simp only [List.set_cons_zero])
        refine wpAnyH_ready (rs := [5, 10]) (by kernel_rfl) (by simp) ?_
        refine (AllReadyH.cons nth5 (fun K hK => ?_) (AllReadyH.cons nth10 (fun K hK => ?_) AllReadyH.nil))
        · go_simp
          refine (QPg.out _).mono ?_
          rintro e w' ⟨rfl, hb⟩
          (try clear d_0 d_1 d_2 d_3 d_4 d_5)
          replace Xd := hide (Xd.out.kept hb)
          replace Sd := hide (Sd.out.kept hb)
          replace TB := hide (TB.out.kept hb)
          replace HB := hide (Bel.then HB.out hb)
          clear hb
          obtain ⟨d_0, d_1, d_2, d_3, d_4, d_5⟩ := Xd.out.cells
          refine hK.out _ _ Xd.out (fun hHeld => ?_)
          clear hK K
          (try simp only [Act.put]); (try simp only [List.setIfInBounds_toArray]); (try simp only [List.set_cons_succ]); (try simp only [List.set_cons_zero])
          refine wpAnyH_ready (rs := [6, 10]) (by kernel_rfl) (by simp) ?_
          refine (AllReadyH.cons nth6 (fun K hK => ?_) (AllReadyH.cons nth10 (fun K hK => ?_) AllReadyH.nil))
          · go_simp
            refine (QG.out _ _ _ Sd.out).mono ?_
            rintro e w' ⟨A3, c3, rfl, hS3, hb⟩
            (try clear d_0 d_1 d_2 d_3 d_4 d_5)
            replace Xd := hide (Xd.out.kept hb)
            replace Sd := hide (Sd.out.kept hb)
            replace TB := hide (TB.out.kept hb)
            replace HB := hide (Bel.then HB.out hb)
            have S3 := hide hS3
            clear hS3 hb
            obtain ⟨d_0, d_1, d_2, d_3, d_4, d_5⟩ := Xd.out.cells
            refine hK.out _ _ Xd.out (fun hHeld => ?_)
            clear hK K
            (try simp only [Act.put]); (try simp only [List.setIfInBounds_toArray]); (try simp only [List.set_cons_succ]); (try simp only [List.set_cons_zero])
            first | (refine wpAnyH_take (i := 7) (v := ?_) nth7 (by kernel_rfl) (by kernel_rfl) (by kernel_rfl) (fun _ _ _ h => h) (Or.inl ⟨by rfl, ?_⟩) hHeld ?_; rotate_left; focus (intro wS hSw; obtain ⟨d_0, d_1, d_2, d_3, d_4, d_5⟩ := hSw.cells; go_simp; try with_reducible rfl; done)) | fail
            (try simp only [Act.put]); (try simp only [List.setIfInBounds_toArray]); (try simp only [List.set_cons_succ]); (try simp only [List.set_cons_zero])
            first | (refine wpAnyH_take (i := 8) (v := ?_) nth8 (by kernel_rfl) (by kernel_rfl) (by kernel_rfl) (fun _ _ _ h => h) (Or.inl ⟨by rfl, ?_⟩) hHeld ?_; rotate_left; focus (intro wS hSw; obtain ⟨d_0, d_1, d_2, d_3, d_4, d_5⟩ := hSw.cells; go_simp; try with_reducible rfl; done)) | fail
            (try simp only [Act.put]); (try simp only [List.setIfInBounds_toArray]); (try simp only [List.set_cons_succ]); (try simp only [List.set_cons_zero])
            first | (refine wpAnyH_take (i := 9) (v := ?_) nth9 (by kernel_rfl) (by kernel_rfl) (by kernel_rfl) (fun _ _ _ h => h) (Or.inl ⟨by rfl, ?_⟩) hHeld ?_; rotate_left; focus (intro wS hSw; obtain ⟨d_0, d_1, d_2, d_3, d_4, d_5⟩ := hSw.cells; go_simp; try with_reducible rfl; done)) | fail
            (try simp only [Act.put]); (try simp only [List.setIfInBounds_toArray]); (try simp only [List.set_cons_succ]); (try simp only [List.set_cons_zero])
            refine wpAnyH_ready (rs := [10]) (by kernel_rfl) (by simp) ?_
            refine (AllReadyH.cons nth10 (fun K hK => ?_) AllReadyH.nil)
            go_simp
            refine hK.out _ _ (Xd.out.alloc (.cells #[.slice none 0 0, .int .i64 0, .bool false] 25)) (fun hHeld => ?_)
            clear hK K hHeld
            (try clear d_0 d_1 d_2 d_3 d_4 d_5)
            have hnda : gd ≠ w'.heap.size := by have h1 : gd < w'.heap.size := Xd.out.lt; omega
            have hwa : w.heap.size ≤ w'.heap.size := HB.out.size
            have hb : Below w'.heap.size w' (w'.alloc (.cells #[.slice none 0 0, .int .i64 0, .bool false] 25)) := Bel.one w' (.cells #[.slice none 0 0, .int .i64 0, .bool false] 25)
            replace Xd := hide (Xd.out.kept hb)
            replace Sd := hide (Sd.out.kept hb)
            replace S3 := hide (S3.out.kept hb)
            replace TB := hide (TB.out.kept hb)
            replace HB := hide (Bel.then HB.out hb)
            clear hb
            have Xa := hide (show DBox (w'.alloc (.cells #[.slice none 0 0, .int .i64 0, .bool false] 25)) w'.heap.size (.slice none 0 0) 0 false from dbox_new w' _ _ _)
            generalize w'.alloc (.cells #[.slice none 0 0, .int .i64 0, .bool false] 25) = w1 at *
            generalize w'.heap.size = ga at *
            obtain ⟨w', hww⟩ : ∃ w', w' = w1 := ⟨_, rfl⟩
            subst hww
            have hHeld := Xd.out
            obtain ⟨d_0, d_1, d_2, d_3, d_4, d_5⟩ := Xd.out.cells
            obtain ⟨a_0, a_1, a_2, a_3, a_4, a_5⟩ := Xa.out.cells
            (try simp only [Act.put]); (try simp only [List.setIfInBounds_toArray]); (try simp only [List.set_cons_succ]); (try simp only [List.set_cons_zero])
            refine wpAnyH_ready (rs := [11]) (by kernel_rfl) (by simp) ?_
            refine (AllReadyH.cons nth11 (fun K hK => ?_) AllReadyH.nil)
            go_simp
            have hX := Xa.out.set3 (.slice A3 80 c3) xl xd
            have hOd := far3 Xd.out hnda (.slice A3 80 c3) (.int .i64 xl) (.bool xd)
            have hSd := Sd.out.put (u := (.slice A3 80 c3)) (y := xl) (b := xd) Xa.out (by intro s h; cases h) (by intro s h; cases h)
            have hS3 := S3.out.put (u := (.slice A3 80 c3)) (y := xl) (b := xd) Xa.out (by intro s h; cases h) (by intro s h; cases h)
            have hT := tab_far3 TB.out Xa.out (.slice A3 80 c3) (.int .i64 xl) (.bool xd)
            have hB := below_set3 HB.out hwa (.slice A3 80 c3) (.int .i64 xl) (.bool xd)
            (try clear d_0 d_1 d_2 d_3 d_4 d_5)
            (try clear a_0 a_1 a_2 a_3 a_4 a_5)
            refine hK.out _ _ hOd (fun hHeld => ?_)
            clear hK K
            replace Xa := hide hX
            replace Xd := hide hOd
            replace Sd := hide hSd
            replace S3 := hide hS3
            replace TB := hide hT
            replace HB := hide hB
            clear hX hT hB hOd hSd hS3
            generalize ((w'.setCell ⟨ga, 0, none⟩ (.slice A3 80 c3)).setCell ⟨ga, 1, none⟩ (.int .i64 xl)).setCell ⟨ga, 2, none⟩ (.bool xd) = w1 at *
            obtain ⟨w', hww⟩ : ∃ w', w' = w1 := ⟨_, rfl⟩
            subst hww
            obtain ⟨d_0, d_1, d_2, d_3, d_4, d_5⟩ := Xd.out.cells
            obtain ⟨a_0, a_1, a_2, a_3, a_4, a_5⟩ := Xa.out.cells
            (try simp only [Act.put]); (try simp only [List.setIfInBounds_toArray]); (try simp only [List.set_cons_succ]); (try simp only [List.set_cons_zero])
            first | (refine wpAnyH_take (i := 12) (v := ?_) nth12 (by kernel_rfl) (by kernel_rfl) (by kernel_rfl) (fun _ _ _ h => h) (Or.inl ⟨by rfl, ?_⟩) hHeld ?_; rotate_left; focus (intro wS hSw; obtain ⟨d_0, d_1, d_2, d_3, d_4, d_5⟩ := hSw.cells; go_simp; try with_reducible rfl; done)) | fail
            (try simp only [Act.put]); (try simp only [List.setIfInBounds_toArray]); (try simp only [List.set_cons_succ]); (try simp only [List.set_cons_zero])
            refine wpAnyH_done (by kernel_rfl) ?_ _
            have hnad : ga ≠ gd := fun e => hnda e.symm
            have hTa : gb ≠ ga := tab_ne TB.out Xa.out
            have hTd : gb ≠ gd := tab_ne TB.out Xd.out
            clear Sd
            (try clear d_0 d_1 d_2 d_3 d_4 d_5)
            (try clear a_0 a_1 a_2 a_3 a_4 a_5)
            go_wp2_with fail
            go_loopw [8, 13] (fun l i wr => ∃ j R : Nat, j ≤ 4 ∧ j + R = L ∧ l = .int .i64 R ∧ i = .int .i64 j ∧ Hid (DBox wr gd (.slice A1 80 c1) L false) ∧ Hid (DBox wr ga (.slice A3 80 c3) xl xd) ∧ Hid (DkAt wr A3 80 c3 (secsOf (upd bs P 4 cb))) ∧ Hid (TabAt wr gb 5 (fun i => .int .u8 ((upd bs P j cb i).toNat : Int)) 80) ∧ Hid (Below w.heap.size w wr)) (fun _ i _ => 4 - (intOf i).toNat)
            case atStart => exact ⟨0, L, by omega, by omega, rfl, rfl, Xd, Xa, S3, (by rw [upd_zero]; exact TB), HB⟩
            case round =>
              obtain ⟨j, R, hj, hjR, rfl, rfl, Xd, Xa, S3, TB, HB⟩ := hrel
              have hwj : IntKind.i64.wrap ((j : Int) + 1) = (j : Int) + 1 := IntWalk.i64_in _ (by omega)
              by_cases hlt : j < 4
              · have hlti : (j : Int) < 4 := by omega
                have hR1 : (0 : Int) < R := by omega
                have hR2 : 0 < R := by omega
                obtain ⟨Z, hZ⟩ : ∃ Z : Nat, Z + 1 = R := ⟨R - 1, by omega⟩
                have hwR : IntKind.i64.wrap ((R : Int) - 1) = (Z : Int) := by rw [IntWalk.i64_in _ (by omega)]; omega
                obtain ⟨T, hT⟩ : ∃ T : Nat, P + j = T := ⟨_, rfl⟩
                have hwT : IntKind.i64.wrap ((P : Int) + (j : Int)) = (T : Int) := by rw [IntWalk.i64_in _ (by omega)]; omega
                have hT1 : T < 80 := by omega
                have hT2 : (T : Int) < 80 := by omega
                obtain ⟨v0, hv0⟩ : ∃ v, Hid (wr.cell? ⟨gb, T, none⟩ = some v) := ⟨_, TB.out.cell hT1⟩
                have hv1 := hv0.out
                have hf1 := TB.out.unfrozen T
                have S3n := hide ((sl_farT S3.out TB.out (by intro i s h; cases h) T (.int .u8 (cb.toNat : Int))).more (show _ ≤ (wr.setCell ⟨gb, T, none⟩ (.int .u8 (cb.toNat : Int))).heap.size by simp))
                have Xdn := hide (Xd.out.far (p := ⟨gb, T, none⟩) (fun e => hTd e.symm) (.int .u8 (cb.toNat : Int)))
                have Xan := hide (Xa.out.far (p := ⟨gb, T, none⟩) (fun e => hTa e.symm) (.int .u8 (cb.toNat : Int)))
                have TBn := hide (tab_upd TB.out hT)
                have HBn := hide (HB.out.setCell (p := ⟨gb, T, none⟩) hwb (.int .u8 (cb.toNat : Int)))
                have hjZ : j + 1 + Z = L := by omega
                have hj1 : j + 1 ≤ 4 := by omega
                replace hT := hide hT
                replace hZ := hide hZ
                replace hjR := hide hjR
                clear Xd Xa S3 TB HB
                go_wp2_with fail
                go_roundw
                case rel => exact ⟨j + 1, Z, hj1, hjZ, rfl, by go_num, Xdn, Xan, S3n, TBn, HBn⟩
                case measure => simp [intOf]; omega
              · obtain rfl : j = 4 := by omega
                have hlti : ¬ ((4 : Nat) : Int) < 4 := by omega
                obtain rfl : R = M := by omega
                obtain ⟨d_0, d_1, d_2, d_3, d_4, d_5⟩ := Xd.out.cells
                obtain ⟨a_0, a_1, a_2, a_3, a_4, a_5⟩ := Xa.out.cells
                go_upto_region 20 with (fail)
                have hX := Xd.out.set3 (.slice A3 80 c3) xl xd
                have hOa := far3 Xa.out hnad (.slice A3 80 c3) (.int .i64 xl) (.bool xd)
                have hS3 := S3.out.put (u := (.slice A3 80 c3)) (y := xl) (b := xd) Xd.out (by intro s h; cases h) (by intro s h; cases h)
                have hT := tab_far3 TB.out Xd.out (.slice A3 80 c3) (.int .i64 xl) (.bool xd)
                have hB := below_set3 HB.out hwd (.slice A3 80 c3) (.int .i64 xl) (.bool xd)
                (try clear d_0 d_1 d_2 d_3 d_4 d_5)
                (try clear a_0 a_1 a_2 a_3 a_4 a_5)
                replace Xd := hide hX
                replace Xa := hide hOa
                replace S3 := hide hS3
                replace TB := hide hT
                replace HB := hide hB
                clear hX hT hB hOa hS3
                generalize ((wr.setCell ⟨gd, 0, none⟩ (.slice A3 80 c3)).setCell ⟨gd, 1, none⟩ (.int .i64 xl)).setCell ⟨gd, 2, none⟩ (.bool xd) = w1 at *
                obtain ⟨w', hww⟩ : ∃ w', w' = w1 := ⟨_, rfl⟩
                subst hww
                rw [← hxl.out, ← hxd.out] at Xd
                go_wp2_with fail
                go_roundw
                case rel => exact ⟨k + 1, R, upd bs P 4 cb, A3, c3, by omega, by omega, by go_num, rfl, Xd, S3, TB, HB⟩
                case measure => simp [intOf]; omega
          · go_simp
            refine hK.out _ _ (Xd.out.alloc (.cells #[.slice none 0 0, .int .i64 0, .bool false] 25)) (fun hHeld => ?_)
            clear hK K hHeld
            (try clear d_0 d_1 d_2 d_3 d_4 d_5)
            have hnda : gd ≠ w'.heap.size := by have h1 : gd < w'.heap.size := Xd.out.lt; omega
            have hwa : w.heap.size ≤ w'.heap.size := HB.out.size
            have hb : Below w'.heap.size w' (w'.alloc (.cells #[.slice none 0 0, .int .i64 0, .bool false] 25)) := Bel.one w' (.cells #[.slice none 0 0, .int .i64 0, .bool false] 25)
            replace Xd := hide (Xd.out.kept hb)
            replace Sd := hide (Sd.out.kept hb)
            replace TB := hide (TB.out.kept hb)
            replace HB := hide (Bel.then HB.out hb)
            clear hb
            have Xa := hide (show DBox (w'.alloc (.cells #[.slice none 0 0, .int .i64 0, .bool false] 25)) w'.heap.size (.slice none 0 0) 0 false from dbox_new w' _ _ _)
            generalize w'.alloc (.cells #[.slice none 0 0, .int .i64 0, .bool false] 25) = w1 at *
            generalize w'.heap.size = ga at *
            obtain ⟨w', hww⟩ : ∃ w', w' = w1 := ⟨_, rfl⟩
            subst hww
            have hHeld := Xd.out
            obtain ⟨d_0, d_1, d_2, d_3, d_4, d_5⟩ := Xd.out.cells
            obtain ⟨a_0, a_1, a_2, a_3, a_4, a_5⟩ := Xa.out.cells
            (try simp only [Act.put]); (try simp only [List.setIfInBounds_toArray]); (try simp only [List.set_cons_succ]); (try simp only [List.set_cons_zero])
            refine wpAnyH_ready (rs := [6]) (by kernel_rfl) (by simp) ?_
            refine (AllReadyH.cons nth6 (fun K hK => ?_) AllReadyH.nil)
            go_simp
            refine (QG.out _ _ _ Sd.out).mono ?_
            rintro e w' ⟨A3, c3, rfl, hS3, hb⟩
            (try clear d_0 d_1 d_2 d_3 d_4 d_5)
            (try clear a_0 a_1 a_2 a_3 a_4 a_5)
            replace Xd := hide (Xd.out.kept hb)
            replace Xa := hide (Xa.out.kept hb)
            replace Sd := hide (Sd.out.kept hb)
            replace TB := hide (TB.out.kept hb)
            replace HB := hide (Bel.then HB.out hb)
            have S3 := hide hS3
            clear hS3 hb
            obtain ⟨d_0, d_1, d_2, d_3, d_4, d_5⟩ := Xd.out.cells
            obtain ⟨a_0, a_1, a_2, a_3, a_4, a_5⟩ := Xa.out.cells
            refine hK.out _ _ Xd.out (fun hHeld => ?_)
            clear hK K
            (try simp only [Act.put]); (try simp only [List.setIfInBounds_toArray]); (try simp only [List.set_cons_succ]); (try simp only [List.set_cons_zero])
            first | (refine wpAnyH_take (i := 7) (v := ?_) nth7 (by kernel_rfl) (by kernel_rfl) (by kernel_rfl) (fun _ _ _ h => h) (Or.inl ⟨by rfl, ?_⟩) hHeld ?_; rotate_left; focus (intro wS hSw; obtain ⟨d_0, d_1, d_2, d_3, d_4, d_5⟩ := hSw.cells; go_simp; try with_reducible rfl; done)) | fail
            (try simp only [Act.put]); (try simp only [List.setIfInBounds_toArray]); (try simp only [List.set_cons_succ]); (try simp only [List.set_cons_zero])
            first | (refine wpAnyH_take (i := 8) (v := ?_) nth8 (by kernel_rfl) (by kernel_rfl) (by kernel_rfl) (fun _ _ _ h => h) (Or.inl ⟨by rfl, ?_⟩) hHeld ?_; rotate_left; focus (intro wS hSw; obtain ⟨d_0, d_1, d_2, d_3, d_4, d_5⟩ := hSw.cells; go_simp; try with_reducible rfl; done)) | fail
            (try simp only [Act.put]); (try simp only [List.setIfInBounds_toArray]); (try simp only [List.set_cons_succ]); (try simp only [List.set_cons_zero])
            first | (refine wpAnyH_take (i := 9) (v := ?_) nth9 (by kernel_rfl) (by kernel_rfl) (by kernel_rfl) (fun _ _ _ h => h) (Or.inl ⟨by rfl, ?_⟩) hHeld ?_; rotate_left; focus (intro wS hSw; obtain ⟨d_0, d_1, d_2, d_3, d_4, d_5⟩ := hSw.cells; go_simp; try with_reducible rfl; done)) | fail
            (try simp only [Act.put]); (try simp only [List.setIfInBounds_toArray]); (try simp only [List.set_cons_succ]); (try simp only [List.set_cons_zero])
            refine wpAnyH_ready (rs := [11]) (by kernel_rfl) (by simp) ?_
            refine (AllReadyH.cons nth11 (fun K hK => ?_) AllReadyH.nil)
            go_simp
            have hX := Xa.out.set3 (.slice A3 80 c3) xl xd
            have hOd := far3 Xd.out hnda (.slice A3 80 c3) (.int .i64 xl) (.bool xd)
            have hSd := Sd.out.put (u := (.slice A3 80 c3)) (y := xl) (b := xd) Xa.out (by intro s h; cases h) (by intro s h; cases h)
            have hS3 := S3.out.put (u := (.slice A3 80 c3)) (y := xl) (b := xd) Xa.out (by intro s h; cases h) (by intro s h; cases h)
            have hT := tab_far3 TB.out Xa.out (.slice A3 80 c3) (.int .i64 xl) (.bool xd)
            have hB := below_set3 HB.out hwa (.slice A3 80 c3) (.int .i64 xl) (.bool xd)
            (try clear d_0 d_1 d_2 d_3 d_4 d_5)
            (try clear a_0 a_1 a_2 a_3 a_4 a_5)
            refine hK.out _ _ hOd (fun hHeld => ?_)
            clear hK K
            replace Xa := hide hX
            replace Xd := hide hOd
            replace Sd := hide hSd
            replace S3 := hide hS3
            replace TB := hide hT
            replace HB := hide hB
            clear hX hT hB hOd hSd hS3
            generalize ((w'.setCell ⟨ga, 0, none⟩ (.slice A3 80 c3)).setCell ⟨ga, 1, none⟩ (.int .i64 xl)).setCell ⟨ga, 2, none⟩ (.bool xd) = w1 at *
            obtain ⟨w', hww⟩ : ∃ w', w' = w1 := ⟨_, rfl⟩
            subst hww
            obtain ⟨d_0, d_1, d_2, d_3, d_4, d_5⟩ := Xd.out.cells
            obtain ⟨a_0, a_1, a_2, a_3, a_4, a_5⟩ := Xa.out.cells
            (try simp only [Act.put]); (try simp only [List.setIfInBounds_toArray]); (try simp only [List.set_cons_succ]); (try simp only [List.set_cons_zero])
            first | (refine wpAnyH_take (i := 12) (v := ?_) nth12 (by kernel_rfl) (by kernel_rfl) (by kernel_rfl) (fun _ _ _ h => h) (Or.inl ⟨by rfl, ?_⟩) hHeld ?_; rotate_left; focus (intro wS hSw; obtain ⟨d_0, d_1, d_2, d_3, d_4, d_5⟩ := hSw.cells; go_simp; try with_reducible rfl; done)) | fail
            (try simp only [Act.put]); (try simp only [List.setIfInBounds_toArray]); (try simp only [List.set_cons_succ]); (try simp only [List.set_cons_zero])
            refine wpAnyH_done (by kernel_rfl) ?_ _
            have hnad : ga ≠ gd := fun e => hnda e.symm
            have hTa : gb ≠ ga := tab_ne TB.out Xa.out
            have hTd : gb ≠ gd := tab_ne TB.out Xd.out
            clear Sd
            (try clear d_0 d_1 d_2 d_3 d_4 d_5)
            (try clear a_0 a_1 a_2 a_3 a_4 a_5)
            go_wp2_with fail
            go_loopw [8, 13] (fun l i wr => ∃ j R : Nat, j ≤ 4 ∧ j + R = L ∧ l = .int .i64 R ∧ i = .int .i64 j ∧ Hid (DBox wr gd (.slice A1 80 c1) L false) ∧ Hid (DBox wr ga (.slice A3 80 c3) xl xd) ∧ Hid (DkAt wr A3 80 c3 (secsOf (upd bs P 4 cb))) ∧ Hid (TabAt wr gb 5 (fun i => .int .u8 ((upd bs P j cb i).toNat : Int)) 80) ∧ Hid (Below w.heap.size w wr)) (fun _ i _ => 4 - (intOf i).toNat)
            case atStart => exact ⟨0, L, by omega, by omega, rfl, rfl, Xd, Xa, S3, (by rw [upd_zero]; exact TB), HB⟩
            case round =>
              obtain ⟨j, R, hj, hjR, rfl, rfl, Xd, Xa, S3, TB, HB⟩ := hrel
              have hwj : IntKind.i64.wrap ((j : Int) + 1) = (j : Int) + 1 := IntWalk.i64_in _ (by omega)
              by_cases hlt : j < 4
              · have hlti : (j : Int) < 4 := by omega
                have hR1 : (0 : Int) < R := by omega
                have hR2 : 0 < R := by omega
                obtain ⟨Z, hZ⟩ : ∃ Z : Nat, Z + 1 = R := ⟨R - 1, by omega⟩
                have hwR : IntKind.i64.wrap ((R : Int) - 1) = (Z : Int) := by rw [IntWalk.i64_in _ (by omega)]; omega
                obtain ⟨T, hT⟩ : ∃ T : Nat, P + j = T := ⟨_, rfl⟩
                have hwT : IntKind.i64.wrap ((P : Int) + (j : Int)) = (T : Int) := by rw [IntWalk.i64_in _ (by omega)]; omega
                have hT1 : T < 80 := by omega
                have hT2 : (T : Int) < 80 := by omega
                obtain ⟨v0, hv0⟩ : ∃ v, Hid (wr.cell? ⟨gb, T, none⟩ = some v) := ⟨_, TB.out.cell hT1⟩
                have hv1 := hv0.out
                have hf1 := TB.out.unfrozen T
                have S3n := hide ((sl_farT S3.out TB.out (by intro i s h; cases h) T (.int .u8 (cb.toNat : Int))).more (show _ ≤ (wr.setCell ⟨gb, T, none⟩ (.int .u8 (cb.toNat : Int))).heap.size by simp))
                have Xdn := hide (Xd.out.far (p := ⟨gb, T, none⟩) (fun e => hTd e.symm) (.int .u8 (cb.toNat : Int)))
                have Xan := hide (Xa.out.far (p := ⟨gb, T, none⟩) (fun e => hTa e.symm) (.int .u8 (cb.toNat : Int)))
                have TBn := hide (tab_upd TB.out hT)
                have HBn := hide (HB.out.setCell (p := ⟨gb, T, none⟩) hwb (.int .u8 (cb.toNat : Int)))
                have hjZ : j + 1 + Z = L := by omega
                have hj1 : j + 1 ≤ 4 := by omega
                replace hT := hide hT
                replace hZ := hide hZ
                replace hjR := hide hjR
                clear Xd Xa S3 TB HB
                go_wp2_with fail
                go_roundw
                case rel => exact ⟨j + 1, Z, hj1, hjZ, rfl, by go_num, Xdn, Xan, S3n, TBn, HBn⟩
                case measure => simp [intOf]; omega
              · obtain rfl : j = 4 := by omega
                have hlti : ¬ ((4 : Nat) : Int) < 4 := by omega
                obtain rfl : R = M := by omega
                obtain ⟨d_0, d_1, d_2, d_3, d_4, d_5⟩ := Xd.out.cells
                obtain ⟨a_0, a_1, a_2, a_3, a_4, a_5⟩ := Xa.out.cells
                go_upto_region 20 with (fail)
                have hX := Xd.out.set3 (.slice A3 80 c3) xl xd
                have hOa := far3 Xa.out hnad (.slice A3 80 c3) (.int .i64 xl) (.bool xd)
                have hS3 := S3.out.put (u := (.slice A3 80 c3)) (y := xl) (b := xd) Xd.out (by intro s h; cases h) (by intro s h; cases h)
                have hT := tab_far3 TB.out Xd.out (.slice A3 80 c3) (.int .i64 xl) (.bool xd)
                have hB := below_set3 HB.out hwd (.slice A3 80 c3) (.int .i64 xl) (.bool xd)
                (try clear d_0 d_1 d_2 d_3 d_4 d_5)
                (try clear a_0 a_1 a_2 a_3 a_4 a_5)
                replace Xd := hide hX
                replace Xa := hide hOa
                replace S3 := hide hS3
                replace TB := hide hT
                replace HB := hide hB
                clear hX hT hB hOa hS3
                generalize ((wr.setCell ⟨gd, 0, none⟩ (.slice A3 80 c3)).setCell ⟨gd, 1, none⟩ (.int .i64 xl)).setCell ⟨gd, 2, none⟩ (.bool xd) = w1 at *
                obtain ⟨w', hww⟩ : ∃ w', w' = w1 := ⟨_, rfl⟩
                subst hww
                rw [← hxl.out, ← hxd.out] at Xd
                go_wp2_with fail
                go_roundw
                case rel => exact ⟨k + 1, R, upd bs P 4 cb, A3, c3, by omega, by omega, by go_num, rfl, Xd, S3, TB, HB⟩
                case measure => simp [intOf]; omega
        · go_simp
          refine hK.out _ _ (Xd.out.alloc (.cells #[.slice none 0 0, .int .i64 0, .bool false] 25)) (fun hHeld => ?_)
          clear hK K hHeld
          (try clear d_0 d_1 d_2 d_3 d_4 d_5)
          have hnda : gd ≠ w'.heap.size := by have h1 : gd < w'.heap.size := Xd.out.lt; omega
          have hwa : w.heap.size ≤ w'.heap.size := HB.out.size
          have hb : Below w'.drew.heap.size w'.drew ((w'.alloc (.cells #[.slice none 0 0, .int .i64 0, .bool false] 25)).drew) := Bel.one w'.drew (.cells #[.slice none 0 0, .int .i64 0, .bool false] 25)
          replace Xd := hide (Xd.out.kept hb)
          replace Sd := hide (Sd.out.kept hb)
          replace TB := hide (TB.out.kept hb)
          replace HB := hide (Bel.then HB.out hb)
          clear hb
          have Xa := hide (show DBox ((w'.alloc (.cells #[.slice none 0 0, .int .i64 0, .bool false] 25)).drew) w'.heap.size (.slice none 0 0) 0 false from dbox_new w' _ _ _)
          generalize (w'.alloc (.cells #[.slice none 0 0, .int .i64 0, .bool false] 25)).drew = w1 at *
          generalize w'.heap.size = ga at *
          obtain ⟨w', hww⟩ : ∃ w', w' = w1 := ⟨_, rfl⟩
          subst hww
          have hHeld := Xd.out
          obtain ⟨d_0, d_1, d_2, d_3, d_4, d_5⟩ := Xd.out.cells
          obtain ⟨a_0, a_1, a_2, a_3, a_4, a_5⟩ := Xa.out.cells
          (try simp only [Act.put]); (try simp only [List.setIfInBounds_toArray]); (try simp only [List.set_cons_succ]); (try simp only [List.set_cons_zero])
          refine wpAnyH_ready (rs := [5]) (by kernel_rfl) (by simp) ?_
          refine (AllReadyH.cons nth5 (fun K hK => ?_) AllReadyH.nil)
          go_simp
          refine (QPg.out _).mono ?_
          rintro e w' ⟨rfl, hb⟩
          (try clear d_0 d_1 d_2 d_3 d_4 d_5)
          (try clear a_0 a_1 a_2 a_3 a_4 a_5)
          replace Xd := hide (Xd.out.kept hb)
          replace Xa := hide (Xa.out.kept hb)
          replace Sd := hide (Sd.out.kept hb)
          replace TB := hide (TB.out.kept hb)
          replace HB := hide (Bel.then HB.out hb)
          clear hb
          obtain ⟨d_0, d_1, d_2, d_3, d_4, d_5⟩ := Xd.out.cells
          obtain ⟨a_0, a_1, a_2, a_3, a_4, a_5⟩ := Xa.out.cells
          refine hK.out _ _ Xd.out (fun hHeld => ?_)
          clear hK K
          (try simp only [Act.put]); (try simp only [List.setIfInBounds_toArray]); (try simp only [List.set_cons_succ]); (try simp only [List.set_cons_zero])
          refine wpAnyH_ready (rs := [6]) (by kernel_rfl) (by simp) ?_
          refine (AllReadyH.cons nth6 (fun K hK => ?_) AllReadyH.nil)
          go_simp
          refine (QG.out _ _ _ Sd.out).mono ?_
          rintro e w' ⟨A3, c3, rfl, hS3, hb⟩
          (try clear d_0 d_1 d_2 d_3 d_4 d_5)
          (try clear a_0 a_1 a_2 a_3 a_4 a_5)
          replace Xd := hide (Xd.out.kept hb)
          replace Xa := hide (Xa.out.kept hb)
          replace Sd := hide (Sd.out.kept hb)
          replace TB := hide (TB.out.kept hb)
          replace HB := hide (Bel.then HB.out hb)
          have S3 := hide hS3
          clear hS3 hb
          obtain ⟨d_0, d_1, d_2, d_3, d_4, d_5⟩ := Xd.out.cells
          obtain ⟨a_0, a_1, a_2, a_3, a_4, a_5⟩ := Xa.out.cells
          refine hK.out _ _ Xd.out (fun hHeld => ?_)
          clear hK K
          (try simp only [Act.put]); (try simp only [List.setIfInBounds_toArray]); (try simp only [List.set_cons_succ]); (try simp only [List.set_cons_zero])
          first | (refine wpAnyH_take (i := 7) (v := ?_) nth7 (by kernel_rfl) (by kernel_rfl) (by kernel_rfl) (fun _ _ _ h => h) (Or.inl ⟨by rfl, ?_⟩) hHeld ?_; rotate_left; focus (intro wS hSw; obtain ⟨d_0, d_1, d_2, d_3, d_4, d_5⟩ := hSw.cells; go_simp; try with_reducible rfl; done)) | fail
          (try simp only [Act.put]); (try simp only [List.setIfInBounds_toArray]); (try simp only [List.set_cons_succ]); (try simp only [List.set_cons_zero])
          first | (refine wpAnyH_take (i := 8) (v := ?_) nth8 (by kernel_rfl) (by kernel_rfl) (by kernel_rfl) (fun _ _ _ h => h) (Or.inl ⟨by rfl, ?_⟩) hHeld ?_; rotate_left; focus (intro wS hSw; obtain ⟨d_0, d_1, d_2, d_3, d_4, d_5⟩ := hSw.cells; go_simp; try with_reducible rfl; done)) | fail
          (try simp only [Act.put]); (try simp only [List.setIfInBounds_toArray]); (try simp only [List.set_cons_succ]); (try simp only [List.set_cons_zero])
          first | (refine wpAnyH_take (i := 9) (v := ?_) nth9 (by kernel_rfl) (by kernel_rfl) (by kernel_rfl) (fun _ _ _ h => h) (Or.inl ⟨by rfl, ?_⟩) hHeld ?_; rotate_left; focus (intro wS hSw; obtain ⟨d_0, d_1, d_2, d_3, d_4, d_5⟩ := hSw.cells; go_simp; try with_reducible rfl; done)) | fail
          (try simp only [Act.put]); (try simp only [List.setIfInBounds_toArray]); (try simp only [List.set_cons_succ]); (try simp only [List.set_cons_zero])
          refine wpAnyH_ready (rs := [11]) (by kernel_rfl) (by simp) ?_
          refine (AllReadyH.cons nth11 (fun K hK => ?_) AllReadyH.nil)
          go_simp
          have hX := Xa.out.set3 (.slice A3 80 c3) xl xd
          have hOd := far3 Xd.out hnda (.slice A3 80 c3) (.int .i64 xl) (.bool xd)
          have hSd := Sd.out.put (u := (.slice A3 80 c3)) (y := xl) (b := xd) Xa.out (by intro s h; cases h) (by intro s h; cases h)
          have hS3 := S3.out.put (u := (.slice A3 80 c3)) (y := xl) (b := xd) Xa.out (by intro s h; cases h) (by intro s h; cases h)
          have hT := tab_far3 TB.out Xa.out (.slice A3 80 c3) (.int .i64 xl) (.bool xd)
          have hB := below_set3 HB.out hwa (.slice A3 80 c3) (.int .i64 xl) (.bool xd)
          (try clear d_0 d_1 d_2 d_3 d_4 d_5)
          (try clear a_0 a_1 a_2 a_3 a_4 a_5)
          refine hK.out _ _ hOd (fun hHeld => ?_)
          clear hK K
          replace Xa := hide hX
          replace Xd := hide hOd
          replace Sd := hide hSd
          replace S3 := hide hS3
          replace TB := hide hT
          replace HB := hide hB
          clear hX hT hB hOd hSd hS3
          generalize ((w'.setCell ⟨ga, 0, none⟩ (.slice A3 80 c3)).setCell ⟨ga, 1, none⟩ (.int .i64 xl)).setCell ⟨ga, 2, none⟩ (.bool xd) = w1 at *
          obtain ⟨w', hww⟩ : ∃ w', w' = w1 := ⟨_, rfl⟩
          subst hww
          obtain ⟨d_0, d_1, d_2, d_3, d_4, d_5⟩ := Xd.out.cells
          obtain ⟨a_0, a_1, a_2, a_3, a_4, a_5⟩ := Xa.out.cells
          (try simp only [Act.put]); (try simp only [List.setIfInBounds_toArray]); (try simp only [List.set_cons_succ]); (try simp only [List.set_cons_zero])
          first | (refine wpAnyH_take (i := 12) (v := ?_) nth12 (by kernel_rfl) (by kernel_rfl) (by kernel_rfl) (fun _ _ _ h => h) (Or.inl ⟨by rfl, ?_⟩) hHeld ?_; rotate_left; focus (intro wS hSw; obtain ⟨d_0, d_1, d_2, d_3, d_4, d_5⟩ := hSw.cells; go_simp; try with_reducible rfl; done)) | fail
          (try simp only [Act.put]); (try simp only [List.setIfInBounds_toArray]); (try simp only [List.set_cons_succ]); (try simp only [List.set_cons_zero])
          refine wpAnyH_done (by kernel_rfl) ?_ _
          have hnad : ga ≠ gd := fun e => hnda e.symm
          have hTa : gb ≠ ga := tab_ne TB.out Xa.out
          have hTd : gb ≠ gd := tab_ne TB.out Xd.out
          clear Sd
          (try clear d_0 d_1 d_2 d_3 d_4 d_5)
          (try clear a_0 a_1 a_2 a_3 a_4 a_5)
          go_wp2_with fail
          go_loopw [8, 13] (fun l i wr => ∃ j R : Nat, j ≤ 4 ∧ j + R = L ∧ l = .int .i64 R ∧ i = .int .i64 j ∧ Hid (DBox wr gd (.slice A1 80 c1) L false) ∧ Hid (DBox wr ga (.slice A3 80 c3) xl xd) ∧ Hid (DkAt wr A3 80 c3 (secsOf (upd bs P 4 cb))) ∧ Hid (TabAt wr gb 5 (fun i => .int .u8 ((upd bs P j cb i).toNat : Int)) 80) ∧ Hid (Below w.heap.size w wr)) (fun _ i _ => 4 - (intOf i).toNat)
          case atStart => exact ⟨0, L, by omega, by omega, rfl, rfl, Xd, Xa, S3, (by rw [upd_zero]; exact TB), HB⟩
          case round =>
            obtain ⟨j, R, hj, hjR, rfl, rfl, Xd, Xa, S3, TB, HB⟩ := hrel
            have hwj : IntKind.i64.wrap ((j : Int) + 1) = (j : Int) + 1 := IntWalk.i64_in _ (by omega)
            by_cases hlt : j < 4
            · have hlti : (j : Int) < 4 := by omega
              have hR1 : (0 : Int) < R := by omega
              have hR2 : 0 < R := by omega
              obtain ⟨Z, hZ⟩ : ∃ Z : Nat, Z + 1 = R := ⟨R - 1, by omega⟩
              have hwR : IntKind.i64.wrap ((R : Int) - 1) = (Z : Int) := by rw [IntWalk.i64_in _ (by omega)]; omega
              obtain ⟨T, hT⟩ : ∃ T : Nat, P + j = T := ⟨_, rfl⟩
              have hwT : IntKind.i64.wrap ((P : Int) + (j : Int)) = (T : Int) := by rw [IntWalk.i64_in _ (by omega)]; omega
              have hT1 : T < 80 := by omega
              have hT2 : (T : Int) < 80 := by omega
              obtain ⟨v0, hv0⟩ : ∃ v, Hid (wr.cell? ⟨gb, T, none⟩ = some v) := ⟨_, TB.out.cell hT1⟩
              have hv1 := hv0.out
              have hf1 := TB.out.unfrozen T
              have S3n := hide ((sl_farT S3.out TB.out (by intro i s h; cases h) T (.int .u8 (cb.toNat : Int))).more (show _ ≤ (wr.setCell ⟨gb, T, none⟩ (.int .u8 (cb.toNat : Int))).heap.size by simp))
              have Xdn := hide (Xd.out.far (p := ⟨gb, T, none⟩) (fun e => hTd e.symm) (.int .u8 (cb.toNat : Int)))
              have Xan := hide (Xa.out.far (p := ⟨gb, T, none⟩) (fun e => hTa e.symm) (.int .u8 (cb.toNat : Int)))
              have TBn := hide (tab_upd TB.out hT)
              have HBn := hide (HB.out.setCell (p := ⟨gb, T, none⟩) hwb (.int .u8 (cb.toNat : Int)))
              have hjZ : j + 1 + Z = L := by omega
              have hj1 : j + 1 ≤ 4 := by omega
              replace hT := hide hT
              replace hZ := hide hZ
              replace hjR := hide hjR
              clear Xd Xa S3 TB HB
              go_wp2_with fail
              go_roundw
              case rel => exact ⟨j + 1, Z, hj1, hjZ, rfl, by go_num, Xdn, Xan, S3n, TBn, HBn⟩
              case measure => simp [intOf]; omega
            · obtain rfl : j = 4 := by omega
              have hlti : ¬ ((4 : Nat) : Int) < 4 := by omega
              obtain rfl : R = M := by omega
              obtain ⟨d_0, d_1, d_2, d_3, d_4, d_5⟩ := Xd.out.cells
              obtain ⟨a_0, a_1, a_2, a_3, a_4, a_5⟩ := Xa.out.cells
              go_upto_region 20 with (fail)
              have hX := Xd.out.set3 (.slice A3 80 c3) xl xd
              have hOa := far3 Xa.out hnad (.slice A3 80 c3) (.int .i64 xl) (.bool xd)
              have hS3 := S3.out.put (u := (.slice A3 80 c3)) (y := xl) (b := xd) Xd.out (by intro s h; cases h) (by intro s h; cases h)
              have hT := tab_far3 TB.out Xd.out (.slice A3 80 c3) (.int .i64 xl) (.bool xd)
              have hB := below_set3 HB.out hwd (.slice A3 80 c3) (.int .i64 xl) (.bool xd)
              (try clear d_0 d_1 d_2 d_3 d_4 d_5)
              (try clear a_0 a_1 a_2 a_3 a_4 a_5)
              replace Xd := hide hX
              replace Xa := hide hOa
              replace S3 := hide hS3
              replace TB := hide hT
              replace HB := hide hB
              clear hX hT hB hOa hS3
              generalize ((wr.setCell ⟨gd, 0, none⟩ (.slice A3 80 c3)).setCell ⟨gd, 1, none⟩ (.int .i64 xl)).setCell ⟨gd, 2, none⟩ (.bool xd) = w1 at *
              obtain ⟨w', hww⟩ : ∃ w', w' = w1 := ⟨_, rfl⟩
              subst hww
              rw [← hxl.out, ← hxd.out] at Xd
              go_wp2_with fail
              go_roundw
              case rel => exact ⟨k + 1, R, upd bs P 4 cb, A3, c3, by omega, by omega, by go_num, rfl, Xd, S3, TB, HB⟩
              case measure => simp [intOf]; omega
      · rw [cut_write bs P L hP cb, if_neg h4] at QG
        generalize repS 512 cb = pg at *
        have hL1 : ¬ (4 : Int) ≤ L := by omega
        unfold GivesN at QG
        simp only at QG
        obtain ⟨xl, xd, hxl, hxd, QG⟩ : ∃ (xl : Int) (xd : Bool), Hid (0 = xl) ∧ Hid (true = xd) ∧ Hid (∀ (A : Option Addr) (c : Nat) (W : World), DkAt W A 80 c (secsOf bs) → Calls Try.prog 15 #[.agg #[.slice A 80 c, .int .i64 L, .bool false], .int .i64 P, .string pg] W fun e w' => ∃ A c, e = .returned (.tuple #[.agg #[.slice A 80 c, .int .i64 xl, .bool xd], .int .i64 20]) ∧ DkAt w' A 80 c (secsOf (upd bs P L cb)) ∧ Below W.heap.size W w') := ⟨_, _, rfl, rfl, QG⟩
        go_upto_region 11 with (fail)
        obtain ⟨w', hww⟩ : ∃ w', w' = wr := ⟨_, rfl⟩
        subst hww
        refine wp_region_held_drew (S := fun w' => DBox w' gd (.slice A1 80 c1) L false) (by kernel_rfl) Xd.out (fun hHeld => ?_)
        have hb : Below w'.heap.size w' w'.drew := (Below.refl _ _).drew
        replace Xd := hide (Xd.out.kept hb)
        replace Sd := hide (Sd.out.kept hb)
        replace TB := hide (TB.out.kept hb)
        replace HB := hide (Bel.then HB.out hb)
        clear hb x0
        obtain ⟨d_0, d_1, d_2, d_3, d_4, d_5⟩ := Xd.out.cells
        first | (refine wpAnyH_take (i := 0) (v := ?_) nth0 (by kernel_rfl) (by kernel_rfl) (by kernel_rfl) (fun _ _ _ h => h) (Or.inl ⟨by rfl, ?_⟩) hHeld ?_; rotate_left; focus (intro wS hSw; obtain ⟨d_0, d_1, d_2, d_3, d_4, d_5⟩ := hSw.cells; go_simp; try with_reducible rfl; done)) | fail
        (try simp only [Act.put]); (try simp only [List.setIfInBounds_toArray]); (try simp only [List.set_cons_succ]); (try simp only [List.set_cons_zero])
        first | (refine wpAnyH_take (i := 1) (v := ?_) nth1 (by kernel_rfl) (by kernel_rfl) (by kernel_rfl) (fun _ _ _ h => h) (Or.inl ⟨by rfl, ?_⟩) hHeld ?_; rotate_left; focus (intro wS hSw; obtain ⟨d_0, d_1, d_2, d_3, d_4, d_5⟩ := hSw.cells; go_simp; try with_reducible rfl; done)) | fail
        (try simp only [Act.put]); (try simp only [List.setIfInBounds_toArray]); (try simp only [List.set_cons_succ]); (try simp only [List.set_cons_zero])
        first | (refine wpAnyH_take (i := 2) (v := ?_) nth2 (by kernel_rfl) (by kernel_rfl) (by kernel_rfl) (fun _ _ _ h => h) (Or.inl ⟨by rfl, ?_⟩) hHeld ?_; rotate_left; focus (intro wS hSw; obtain ⟨d_0, d_1, d_2, d_3, d_4, d_5⟩ := hSw.cells; go_simp; try with_reducible rfl; done)) | fail
        (try simp only [Act.put]); (try simp only [List.setIfInBounds_toArray]); (try simp only [List.set_cons_succ]); (try simp only [List.set_cons_zero])
        first | (refine wpAnyH_take (i := 3) (v := ?_) nth3 (by kernel_rfl) (by kernel_rfl) (by kernel_rfl) (fun _ _ _ h => h) (Or.inl ⟨by rfl, ?_⟩) hHeld ?_; rotate_left; focus (intro wS hSw; obtain ⟨d_0, d_1, d_2, d_3, d_4, d_5⟩ := hSw.cells; go_simp; try with_reducible rfl; done)) | fail
        (try simp only [Act.put]); (try simp only [List.setIfInBounds_toArray]); (try simp only [List.set_cons_succ]); (try simp only [List.set_cons_zero])
        first | (refine wpAnyH_take (i := 4) (v := ?_) nth4 (by kernel_rfl) (by kernel_rfl) (by kernel_rfl) (fun _ _ _ h => h) (Or.inl ⟨by rfl, ?_⟩) hHeld ?_; rotate_left; focus (intro wS hSw; obtain ⟨d_0, d_1, d_2, d_3, d_4, d_5⟩ := hSw.cells; go_simp; try with_reducible rfl; done)) | fail
        (try simp only [Act.put]); (try simp only [List.setIfInBounds_toArray]); (try simp only [List.set_cons_succ]); (try simp only [List.set_cons_zero])
        refine wpAnyH_ready (rs := [5, 10]) (by kernel_rfl) (by simp) ?_
        refine (AllReadyH.cons nth5 (fun K hK => ?_) (AllReadyH.cons nth10 (fun K hK => ?_) AllReadyH.nil))
        · go_simp
          refine (QPg.out _).mono ?_
          rintro e w' ⟨rfl, hb⟩
          (try clear d_0 d_1 d_2 d_3 d_4 d_5)
          replace Xd := hide (Xd.out.kept hb)
          replace Sd := hide (Sd.out.kept hb)
          replace TB := hide (TB.out.kept hb)
          replace HB := hide (Bel.then HB.out hb)
          clear hb
          obtain ⟨d_0, d_1, d_2, d_3, d_4, d_5⟩ := Xd.out.cells
          refine hK.out _ _ Xd.out (fun hHeld => ?_)
          clear hK K
          (try simp only [Act.put]); (try simp only [List.setIfInBounds_toArray]); (try simp only [List.set_cons_succ]); (try simp only [List.set_cons_zero])
          refine wpAnyH_ready (rs := [6, 10]) (by kernel_rfl) (by simp) ?_
          refine (AllReadyH.cons nth6 (fun K hK => ?_) (AllReadyH.cons nth10 (fun K hK => ?_) AllReadyH.nil))
          · go_simp
            refine (QG.out _ _ _ Sd.out).mono ?_
            rintro e w' ⟨A3, c3, rfl, hS3, hb⟩
            (try clear d_0 d_1 d_2 d_3 d_4 d_5)
            replace Xd := hide (Xd.out.kept hb)
            replace Sd := hide (Sd.out.kept hb)
            replace TB := hide (TB.out.kept hb)
            replace HB := hide (Bel.then HB.out hb)
            have S3 := hide hS3
            clear hS3 hb
            obtain ⟨d_0, d_1, d_2, d_3, d_4, d_5⟩ := Xd.out.cells
            refine hK.out _ _ Xd.out (fun hHeld => ?_)
            clear hK K
            (try simp only [Act.put]); (try simp only [List.setIfInBounds_toArray]); (try simp only [List.set_cons_succ]); (try simp only [List.set_cons_zero])
            first | (refine wpAnyH_take (i := 7) (v := ?_) nth7 (by kernel_rfl) (by kernel_rfl) (by kernel_rfl) (fun _ _ _ h => h) (Or.inl ⟨by rfl, ?_⟩) hHeld ?_; rotate_left; focus (intro wS hSw; obtain ⟨d_0, d_1, d_2, d_3, d_4, d_5⟩ := hSw.cells; go_simp; try with_reducible rfl; done)) | fail
            (try simp only [Act.put]); (try simp only [List.setIfInBounds_toArray]); (try simp only [List.set_cons_succ]); (try simp only [List.set_cons_zero])
            first | (refine wpAnyH_take (i := 8) (v := ?_) nth8 (by kernel_rfl) (by kernel_rfl) (by kernel_rfl) (fun _ _ _ h => h) (Or.inl ⟨by rfl, ?_⟩) hHeld ?_; rotate_left; focus (intro wS hSw; obtain ⟨d_0, d_1, d_2, d_3, d_4, d_5⟩ := hSw.cells; go_simp; try with_reducible rfl; done)) | fail
            (try simp only [Act.put]); (try simp only [List.setIfInBounds_toArray]); (try simp only [List.set_cons_succ]); (try simp only [List.set_cons_zero])
            first | (refine wpAnyH_take (i := 9) (v := ?_) nth9 (by kernel_rfl) (by kernel_rfl) (by kernel_rfl) (fun _ _ _ h => h) (Or.inl ⟨by rfl, ?_⟩) hHeld ?_; rotate_left; focus (intro wS hSw; obtain ⟨d_0, d_1, d_2, d_3, d_4, d_5⟩ := hSw.cells; go_simp; try with_reducible rfl; done)) | fail
            (try simp only [Act.put]); (try simp only [List.setIfInBounds_toArray]); (try simp only [List.set_cons_succ]); (try simp only [List.set_cons_zero])
            refine wpAnyH_ready (rs := [10]) (by kernel_rfl) (by simp) ?_
            refine (AllReadyH.cons nth10 (fun K hK => ?_) AllReadyH.nil)
            go_simp
            refine hK.out _ _ (Xd.out.alloc (.cells #[.slice none 0 0, .int .i64 0, .bool false] 25)) (fun hHeld => ?_)
            clear hK K hHeld
            (try clear d_0 d_1 d_2 d_3 d_4 d_5)
            have hnda : gd ≠ w'.heap.size := by have h1 : gd < w'.heap.size := Xd.out.lt; omega
            have hwa : w.heap.size ≤ w'.heap.size := HB.out.size
            have hb : Below w'.heap.size w' (w'.alloc (.cells #[.slice none 0 0, .int .i64 0, .bool false] 25)) := Bel.one w' (.cells #[.slice none 0 0, .int .i64 0, .bool false] 25)
            replace Xd := hide (Xd.out.kept hb)
            replace Sd := hide (Sd.out.kept hb)
            replace S3 := hide (S3.out.kept hb)
            replace TB := hide (TB.out.kept hb)
            replace HB := hide (Bel.then HB.out hb)
            clear hb
            have Xa := hide (show DBox (w'.alloc (.cells #[.slice none 0 0, .int .i64 0, .bool false] 25)) w'.heap.size (.slice none 0 0) 0 false from dbox_new w' _ _ _)
            generalize w'.alloc (.cells #[.slice none 0 0, .int .i64 0, .bool false] 25) = w1 at *
            generalize w'.heap.size = ga at *
            obtain ⟨w', hww⟩ : ∃ w', w' = w1 := ⟨_, rfl⟩
            subst hww
            have hHeld := Xd.out
            obtain ⟨d_0, d_1, d_2, d_3, d_4, d_5⟩ := Xd.out.cells
            obtain ⟨a_0, a_1, a_2, a_3, a_4, a_5⟩ := Xa.out.cells
            (try simp only [Act.put]); (try simp only [List.setIfInBounds_toArray]); (try simp only [List.set_cons_succ]); (try simp only [List.set_cons_zero])
            refine wpAnyH_ready (rs := [11]) (by kernel_rfl) (by simp) ?_
            refine (AllReadyH.cons nth11 (fun K hK => ?_) AllReadyH.nil)
            go_simp
            have hX := Xa.out.set3 (.slice A3 80 c3) xl xd
            have hOd := far3 Xd.out hnda (.slice A3 80 c3) (.int .i64 xl) (.bool xd)
            have hSd := Sd.out.put (u := (.slice A3 80 c3)) (y := xl) (b := xd) Xa.out (by intro s h; cases h) (by intro s h; cases h)
            have hS3 := S3.out.put (u := (.slice A3 80 c3)) (y := xl) (b := xd) Xa.out (by intro s h; cases h) (by intro s h; cases h)
            have hT := tab_far3 TB.out Xa.out (.slice A3 80 c3) (.int .i64 xl) (.bool xd)
            have hB := below_set3 HB.out hwa (.slice A3 80 c3) (.int .i64 xl) (.bool xd)
            (try clear d_0 d_1 d_2 d_3 d_4 d_5)
            (try clear a_0 a_1 a_2 a_3 a_4 a_5)
            refine hK.out _ _ hOd (fun hHeld => ?_)
            clear hK K
            replace Xa := hide hX
            replace Xd := hide hOd
            replace Sd := hide hSd
            replace S3 := hide hS3
            replace TB := hide hT
            replace HB := hide hB
            clear hX hT hB hOd hSd hS3
            generalize ((w'.setCell ⟨ga, 0, none⟩ (.slice A3 80 c3)).setCell ⟨ga, 1, none⟩ (.int .i64 xl)).setCell ⟨ga, 2, none⟩ (.bool xd) = w1 at *
            obtain ⟨w', hww⟩ : ∃ w', w' = w1 := ⟨_, rfl⟩
            subst hww
            obtain ⟨d_0, d_1, d_2, d_3, d_4, d_5⟩ := Xd.out.cells
            obtain ⟨a_0, a_1, a_2, a_3, a_4, a_5⟩ := Xa.out.cells
            (try simp only [Act.put]); (try simp only [List.setIfInBounds_toArray]); (try simp only [List.set_cons_succ]); (try simp only [List.set_cons_zero])
            first | (refine wpAnyH_take (i := 12) (v := ?_) nth12 (by kernel_rfl) (by kernel_rfl) (by kernel_rfl) (fun _ _ _ h => h) (Or.inl ⟨by rfl, ?_⟩) hHeld ?_; rotate_left; focus (intro wS hSw; obtain ⟨d_0, d_1, d_2, d_3, d_4, d_5⟩ := hSw.cells; go_simp; try with_reducible rfl; done)) | fail
            (try simp only [Act.put]); (try simp only [List.setIfInBounds_toArray]); (try simp only [List.set_cons_succ]); (try simp only [List.set_cons_zero])
            refine wpAnyH_done (by kernel_rfl) ?_ _
            have hnad : ga ≠ gd := fun e => hnda e.symm
            have hTa : gb ≠ ga := tab_ne TB.out Xa.out
            have hTd : gb ≠ gd := tab_ne TB.out Xd.out
            clear Sd
            (try clear d_0 d_1 d_2 d_3 d_4 d_5)
            (try clear a_0 a_1 a_2 a_3 a_4 a_5)
            go_wp2_with fail
            go_loopw [8, 13] (fun l i wr => ∃ j R : Nat, j ≤ L ∧ j + R = L ∧ l = .int .i64 R ∧ i = .int .i64 j ∧ Hid (DBox wr gd (.slice A1 80 c1) L false) ∧ Hid (DBox wr ga (.slice A3 80 c3) xl xd) ∧ Hid (DkAt wr A3 80 c3 (secsOf (upd bs P L cb))) ∧ Hid (TabAt wr gb 5 (fun i => .int .u8 ((upd bs P j cb i).toNat : Int)) 80) ∧ Hid (Below w.heap.size w wr)) (fun _ i _ => 4 - (intOf i).toNat)
            case atStart => exact ⟨0, L, by omega, by omega, rfl, rfl, Xd, Xa, S3, (by rw [upd_zero]; exact TB), HB⟩
            case round =>
              obtain ⟨j, R, hj, hjR, rfl, rfl, Xd, Xa, S3, TB, HB⟩ := hrel
              have hwj : IntKind.i64.wrap ((j : Int) + 1) = (j : Int) + 1 := IntWalk.i64_in _ (by omega)
              by_cases hlt : j < L
              · have hlti : (j : Int) < 4 := by omega
                have hR1 : (0 : Int) < R := by omega
                have hR2 : 0 < R := by omega
                obtain ⟨Z, hZ⟩ : ∃ Z : Nat, Z + 1 = R := ⟨R - 1, by omega⟩
                have hwR : IntKind.i64.wrap ((R : Int) - 1) = (Z : Int) := by rw [IntWalk.i64_in _ (by omega)]; omega
                obtain ⟨T, hT⟩ : ∃ T : Nat, P + j = T := ⟨_, rfl⟩
                have hwT : IntKind.i64.wrap ((P : Int) + (j : Int)) = (T : Int) := by rw [IntWalk.i64_in _ (by omega)]; omega
                have hT1 : T < 80 := by omega
                have hT2 : (T : Int) < 80 := by omega
                obtain ⟨v0, hv0⟩ : ∃ v, Hid (wr.cell? ⟨gb, T, none⟩ = some v) := ⟨_, TB.out.cell hT1⟩
                have hv1 := hv0.out
                have hf1 := TB.out.unfrozen T
                have S3n := hide ((sl_farT S3.out TB.out (by intro i s h; cases h) T (.int .u8 (cb.toNat : Int))).more (show _ ≤ (wr.setCell ⟨gb, T, none⟩ (.int .u8 (cb.toNat : Int))).heap.size by simp))
                have Xdn := hide (Xd.out.far (p := ⟨gb, T, none⟩) (fun e => hTd e.symm) (.int .u8 (cb.toNat : Int)))
                have Xan := hide (Xa.out.far (p := ⟨gb, T, none⟩) (fun e => hTa e.symm) (.int .u8 (cb.toNat : Int)))
                have TBn := hide (tab_upd TB.out hT)
                have HBn := hide (HB.out.setCell (p := ⟨gb, T, none⟩) hwb (.int .u8 (cb.toNat : Int)))
                have hjZ : j + 1 + Z = L := by omega
                have hj1 : j + 1 ≤ L := by omega
                replace hT := hide hT
                replace hZ := hide hZ
                replace hjR := hide hjR
                clear Xd Xa S3 TB HB
                go_wp2_with fail
                go_roundw
                case rel => exact ⟨j + 1, Z, hj1, hjZ, rfl, by go_num, Xdn, Xan, S3n, TBn, HBn⟩
                case measure => simp [intOf]; omega
              · obtain rfl : j = L := by omega
                obtain rfl : R = 0 := by omega
                have hlti : (j : Int) < 4 := by omega
                obtain ⟨d_0, d_1, d_2, d_3, d_4, d_5⟩ := Xd.out.cells
                obtain ⟨a_0, a_1, a_2, a_3, a_4, a_5⟩ := Xa.out.cells
                go_upto_region 20 with (fail)
                have hX := Xd.out.set3 (.slice A3 80 c3) xl xd
                have hOa := far3 Xa.out hnad (.slice A3 80 c3) (.int .i64 xl) (.bool xd)
                have hS3 := S3.out.put (u := (.slice A3 80 c3)) (y := xl) (b := xd) Xd.out (by intro s h; cases h) (by intro s h; cases h)
                have hT := tab_far3 TB.out Xd.out (.slice A3 80 c3) (.int .i64 xl) (.bool xd)
                have hB := below_set3 HB.out hwd (.slice A3 80 c3) (.int .i64 xl) (.bool xd)
                (try clear d_0 d_1 d_2 d_3 d_4 d_5)
                (try clear a_0 a_1 a_2 a_3 a_4 a_5)
                replace Xd := hide hX
                replace Xa := hide hOa
                replace S3 := hide hS3
                replace TB := hide hT
                replace HB := hide hB
                clear hX hT hB hOa hS3
                generalize ((wr.setCell ⟨gd, 0, none⟩ (.slice A3 80 c3)).setCell ⟨gd, 1, none⟩ (.int .i64 xl)).setCell ⟨gd, 2, none⟩ (.bool xd) = w1 at *
                obtain ⟨w', hww⟩ : ∃ w', w' = w1 := ⟨_, rfl⟩
                subst hww
                clear Xa
                (try clear d_0 d_1 d_2 d_3 d_4 d_5)
                obtain ⟨d_0, d_1, d_2, d_3, d_4, d_5⟩ := Xd.out.cells
                have QT := hide (fun A c W hW => cStart (A := A) (n := 80) (c := c) (d := ⟨secsOf (upd bs P j cb), xl, xd⟩) (w := W) hW (by omega))
                unfold GivesK startD at QT
                simp only at QT
                go_wp2_with fail
                refine (QT.out _ _ _ S3.out).mono ?_
                rintro e w' ⟨A5, c5, rfl, hS5, hb⟩
                (try clear d_0 d_1 d_2 d_3 d_4 d_5)
                replace Xd := hide (Xd.out.kept hb)
                replace S3 := hide (S3.out.kept hb)
                replace TB := hide (TB.out.kept hb)
                replace HB := hide (Bel.then HB.out hb)
                have S5 := hide hS5
                clear hS5 hb S3 QT
                obtain ⟨d_0, d_1, d_2, d_3, d_4, d_5⟩ := Xd.out.cells
                go_upto_region 22 with (fail)
                have hX := Xd.out.set3 (.slice A5 80 c5) (-1) false
                have hS5 := S5.out.put (u := (.slice A5 80 c5)) (y := (-1)) (b := false) Xd.out (by intro s h; cases h) (by intro s h; cases h)
                have hT := tab_far3 TB.out Xd.out (.slice A5 80 c5) (.int .i64 (-1)) (.bool false)
                have hB := below_set3 HB.out hwd (.slice A5 80 c5) (.int .i64 (-1)) (.bool false)
                (try clear d_0 d_1 d_2 d_3 d_4 d_5)
                replace Xd := hide hX
                replace S5 := hide hS5
                replace TB := hide hT
                replace HB := hide hB
                clear hX hT hB  hS5
                generalize ((w'.setCell ⟨gd, 0, none⟩ (.slice A5 80 c5)).setCell ⟨gd, 1, none⟩ (.int .i64 (-1))).setCell ⟨gd, 2, none⟩ (.bool false) = w1 at *
                obtain ⟨w', hww⟩ : ∃ w', w' = w1 := ⟨_, rfl⟩
                subst hww
                have QR : Hid (∀ (jj : Nat), jj < 80 → ∀ (A : Option Addr) (c : Nat) (W : World), DkAt W A 80 c (secsOf (upd bs P j cb)) → Calls Try.prog 13 #[.agg #[.slice A 80 c, .int .i64 (-1), .bool false], .int .i64 (jj : Int)] W fun e w' => e = .returned (.tuple #[.string (repS 128 ((upd bs P j cb) jj)), .int .i64 0]) ∧ Below W.heap.size W w') := hide (fun jj h A c W hW => by have q0 := cRead (A := A) (n := 80) (c := c) (d := ⟨secsOf (upd bs P j cb), -1, false⟩) (w := W) (jj : Int) hW (by omega); unfold GivesR at q0; rw [cut_read _ jj h] at q0; exact q0)
                generalize hbs : (upd bs P j cb) = B at *
                clear hbs
                go_wp2_with fail
                go_loopw [14] (fun i wr => ∃ j : Nat, j ≤ 80 ∧ i = .int .i64 j ∧ Hid (DBox wr gd (.slice A5 80 c5) (-1) false) ∧ Hid (DkAt wr A5 80 c5 (secsOf B)) ∧ Hid (TabAt wr gb 5 (fun i => .int .u8 ((B i).toNat : Int)) 80) ∧ Hid (Below w.heap.size w wr)) (fun i _ => 80 - (intOf i).toNat)
                case atStart => exact ⟨0, Nat.zero_le _, rfl, Xd, S5, TB, HB⟩
                case round =>
                  obtain ⟨j, hj, rfl, Xd, S5, TB, HB⟩ := hrel
                  have hwj : IntKind.i64.wrap ((j : Int) + 1) = (j : Int) + 1 := IntWalk.i64_in _ (by omega)
                  by_cases hlt : j < 80
                  · have hlti : (j : Int) < 80 := by omega
                    obtain ⟨d_0, d_1, d_2, d_3, d_4, d_5⟩ := Xd.out.cells
                    have hrz : (((repS 128 (B j)).size : Int) != 128) = false := by rw [repS_size]; rfl
                    have hr0 := fun h => rep_at 128 (B j) 0 h
                    have hr1 := fun h => rep_at 128 (B j) 127 h
                    have hl0 : 0 < (repS 128 (B j)).size := by rw [repS_size]; omega
                    have hl1 : 127 < (repS 128 (B j)).size := by rw [repS_size]; omega
                    have hl2 : (0 : Int) < (repS 128 (B j)).size := by rw [repS_size]; decide
                    have hl3 : (127 : Int) < (repS 128 (B j)).size := by rw [repS_size]; decide
                    have q := QR.out j hlt
                    have Q := hide q
                    clear q
                    generalize repS 128 (B j) = r at *
                    go_wp2_with fail
                    refine (Q.out _ _ _ S5.out).mono ?_
                    rintro e w' ⟨rfl, hb⟩
                    (try clear d_0 d_1 d_2 d_3 d_4 d_5)
                    replace Xd := hide (Xd.out.kept hb)
                    replace S5 := hide (S5.out.kept hb)
                    replace TB := hide (TB.out.kept hb)
                    replace HB := hide (Bel.then HB.out hb)
                    clear hb
                    have tb := TB.out.cell hlt
                    have tbd : w'.drew.cell? ⟨gb, j, none⟩ = some (.int .u8 ((B j).toNat : Int)) := tb
                    generalize B j = y at *
                    go_upto_region 26 with (fail)
                    go_quiet (fail)
                    go_wp2_with fail
                    go_roundw
                    case rel => exact ⟨j + 1, by omega, by go_num, hide (Xd.out.kept (Bel.drewN (Below.refl _ _) _)), hide (S5.out.kept (Bel.drewN (Below.refl _ _) _)), hide (TB.out.kept (Bel.drewN (Below.refl _ _) _)), hide (Bel.then HB.out (Bel.drewN (Below.refl _ _) _))⟩
                    case measure => simp [intOf]; omega
                  · have hlti : ¬ (j : Int) < 80 := by omega
                    go_wp2_with fail
                    refine (QA.out _).mono ?_
                    rintro e w' ⟨rfl, hb⟩
                    replace HB := hide (Bel.then HB.out hb)
                    go_wp2_with fail
                    go_ret
                    exact ⟨rfl, HB.out⟩
          · go_simp
            refine hK.out _ _ (Xd.out.alloc (.cells #[.slice none 0 0, .int .i64 0, .bool false] 25)) (fun hHeld => ?_)
            clear hK K hHeld
            (try clear d_0 d_1 d_2 d_3 d_4 d_5)
            have hnda : gd ≠ w'.heap.size := by have h1 : gd < w'.heap.size := Xd.out.lt; omega
            have hwa : w.heap.size ≤ w'.heap.size := HB.out.size
            have hb : Below w'.heap.size w' (w'.alloc (.cells #[.slice none 0 0, .int .i64 0, .bool false] 25)) := Bel.one w' (.cells #[.slice none 0 0, .int .i64 0, .bool false] 25)
            replace Xd := hide (Xd.out.kept hb)
            replace Sd := hide (Sd.out.kept hb)
            replace TB := hide (TB.out.kept hb)
            replace HB := hide (Bel.then HB.out hb)
            clear hb
            have Xa := hide (show DBox (w'.alloc (.cells #[.slice none 0 0, .int .i64 0, .bool false] 25)) w'.heap.size (.slice none 0 0) 0 false from dbox_new w' _ _ _)
            generalize w'.alloc (.cells #[.slice none 0 0, .int .i64 0, .bool false] 25) = w1 at *
            generalize w'.heap.size = ga at *
            obtain ⟨w', hww⟩ : ∃ w', w' = w1 := ⟨_, rfl⟩
            subst hww
            have hHeld := Xd.out
            obtain ⟨d_0, d_1, d_2, d_3, d_4, d_5⟩ := Xd.out.cells
            obtain ⟨a_0, a_1, a_2, a_3, a_4, a_5⟩ := Xa.out.cells
            (try simp only [Act.put]); (try simp only [List.setIfInBounds_toArray]); (try simp only [List.set_cons_succ]); (try simp only [List.set_cons_zero])
            refine wpAnyH_ready (rs := [6]) (by kernel_rfl) (by simp) ?_
            refine (AllReadyH.cons nth6 (fun K hK => ?_) AllReadyH.nil)
            go_simp
            refine (QG.out _ _ _ Sd.out).mono ?_
            rintro e w' ⟨A3, c3, rfl, hS3, hb⟩
            (try clear d_0 d_1 d_2 d_3 d_4 d_5)
            (try clear a_0 a_1 a_2 a_3 a_4 a_5)
            replace Xd := hide (Xd.out.kept hb)
            replace Xa := hide (Xa.out.kept hb)
            replace Sd := hide (Sd.out.kept hb)
            replace TB := hide (TB.out.kept hb)
            replace HB := hide (Bel.then HB.out hb)
            have S3 := hide hS3
            clear hS3 hb
            obtain ⟨d_0, d_1, d_2, d_3, d_4, d_5⟩ := Xd.out.cells
            obtain ⟨a_0, a_1, a_2, a_3, a_4, a_5⟩ := Xa.out.cells
            refine hK.out _ _ Xd.out (fun hHeld => ?_)
            clear hK K
            (try simp only [Act.put]); (try simp only [List.setIfInBounds_toArray]); (try simp only [List.set_cons_succ]); (try simp only [List.set_cons_zero])
            first | (refine wpAnyH_take (i := 7) (v := ?_) nth7 (by kernel_rfl) (by kernel_rfl) (by kernel_rfl) (fun _ _ _ h => h) (Or.inl ⟨by rfl, ?_⟩) hHeld ?_; rotate_left; focus (intro wS hSw; obtain ⟨d_0, d_1, d_2, d_3, d_4, d_5⟩ := hSw.cells; go_simp; try with_reducible rfl; done)) | fail
            (try simp only [Act.put]); (try simp only [List.setIfInBounds_toArray]); (try simp only [List.set_cons_succ]); (try simp only [List.set_cons_zero])
            first | (refine wpAnyH_take (i := 8) (v := ?_) nth8 (by kernel_rfl) (by kernel_rfl) (by kernel_rfl) (fun _ _ _ h => h) (Or.inl ⟨by rfl, ?_⟩) hHeld ?_; rotate_left; focus (intro wS hSw; obtain ⟨d_0, d_1, d_2, d_3, d_4, d_5⟩ := hSw.cells; go_simp; try with_reducible rfl; done)) | fail
            (try simp only [Act.put]); (try simp only [List.setIfInBounds_toArray]); (try simp only [List.set_cons_succ]); (try simp only [List.set_cons_zero])
            first | (refine wpAnyH_take (i := 9) (v := ?_) nth9 (by kernel_rfl) (by kernel_rfl) (by kernel_rfl) (fun _ _ _ h => h) (Or.inl ⟨by rfl, ?_⟩) hHeld ?_; rotate_left; focus (intro wS hSw; obtain ⟨d_0, d_1, d_2, d_3, d_4, d_5⟩ := hSw.cells; go_simp; try with_reducible rfl; done)) | fail
            (try simp only [Act.put]); (try simp only [List.setIfInBounds_toArray]); (try simp only [List.set_cons_succ]); (try simp only [List.set_cons_zero])
            refine wpAnyH_ready (rs := [11]) (by kernel_rfl) (by simp) ?_
            refine (AllReadyH.cons nth11 (fun K hK => ?_) AllReadyH.nil)
            go_simp
            have hX := Xa.out.set3 (.slice A3 80 c3) xl xd
            have hOd := far3 Xd.out hnda (.slice A3 80 c3) (.int .i64 xl) (.bool xd)
            have hSd := Sd.out.put (u := (.slice A3 80 c3)) (y := xl) (b := xd) Xa.out (by intro s h; cases h) (by intro s h; cases h)
            have hS3 := S3.out.put (u := (.slice A3 80 c3)) (y := xl) (b := xd) Xa.out (by intro s h; cases h) (by intro s h; cases h)
            have hT := tab_far3 TB.out Xa.out (.slice A3 80 c3) (.int .i64 xl) (.bool xd)
            have hB := below_set3 HB.out hwa (.slice A3 80 c3) (.int .i64 xl) (.bool xd)
            (try clear d_0 d_1 d_2 d_3 d_4 d_5)
            (try clear a_0 a_1 a_2 a_3 a_4 a_5)
            refine hK.out _ _ hOd (fun hHeld => ?_)
            clear hK K
            replace Xa := hide hX
            replace Xd := hide hOd
            replace Sd := hide hSd
            replace S3 := hide hS3
            replace TB := hide hT
            replace HB := hide hB
            clear hX hT hB hOd hSd hS3
            generalize ((w'.setCell ⟨ga, 0, none⟩ (.slice A3 80 c3)).setCell ⟨ga, 1, none⟩ (.int .i64 xl)).setCell ⟨ga, 2, none⟩ (.bool xd) = w1 at *
            obtain ⟨w', hww⟩ : ∃ w', w' = w1 := ⟨_, rfl⟩
            subst hww
            obtain ⟨d_0, d_1, d_2, d_3, d_4, d_5⟩ := Xd.out.cells
            obtain ⟨a_0, a_1, a_2, a_3, a_4, a_5⟩ := Xa.out.cells
            (try simp only [Act.put]); (try simp only [List.setIfInBounds_toArray]); (try simp only [List.set_cons_succ]); (try simp only [List.set_cons_zero])
            first | (refine wpAnyH_take (i := 12) (v := ?_) nth12 (by kernel_rfl) (by kernel_rfl) (by kernel_rfl) (fun _ _ _ h => h) (Or.inl ⟨by rfl, ?_⟩) hHeld ?_; rotate_left; focus (intro wS hSw; obtain ⟨d_0, d_1, d_2, d_3, d_4, d_5⟩ := hSw.cells; go_simp; try with_reducible rfl; done)) | fail
            (try simp only [Act.put]); (try simp only [List.setIfInBounds_toArray]); (try simp only [List.set_cons_succ]); (try simp only [List.set_cons_zero])
            refine wpAnyH_done (by kernel_rfl) ?_ _
            have hnad : ga ≠ gd := fun e => hnda e.symm
            have hTa : gb ≠ ga := tab_ne TB.out Xa.out
            have hTd : gb ≠ gd := tab_ne TB.out Xd.out
            clear Sd
            (try clear d_0 d_1 d_2 d_3 d_4 d_5)
            (try clear a_0 a_1 a_2 a_3 a_4 a_5)
            go_wp2_with fail
            go_loopw [8, 13] (fun l i wr => ∃ j R : Nat, j ≤ L ∧ j + R = L ∧ l = .int .i64 R ∧ i = .int .i64 j ∧ Hid (DBox wr gd (.slice A1 80 c1) L false) ∧ Hid (DBox wr ga (.slice A3 80 c3) xl xd) ∧ Hid (DkAt wr A3 80 c3 (secsOf (upd bs P L cb))) ∧ Hid (TabAt wr gb 5 (fun i => .int .u8 ((upd bs P j cb i).toNat : Int)) 80) ∧ Hid (Below w.heap.size w wr)) (fun _ i _ => 4 - (intOf i).toNat)
            case atStart => exact ⟨0, L, by omega, by omega, rfl, rfl, Xd, Xa, S3, (by rw [upd_zero]; exact TB), HB⟩
            case round =>
              obtain ⟨j, R, hj, hjR, rfl, rfl, Xd, Xa, S3, TB, HB⟩ := hrel
              have hwj : IntKind.i64.wrap ((j : Int) + 1) = (j : Int) + 1 := IntWalk.i64_in _ (by omega)
              by_cases hlt : j < L
              · have hlti : (j : Int) < 4 := by omega
                have hR1 : (0 : Int) < R := by omega
                have hR2 : 0 < R := by omega
                obtain ⟨Z, hZ⟩ : ∃ Z : Nat, Z + 1 = R := ⟨R - 1, by omega⟩
                have hwR : IntKind.i64.wrap ((R : Int) - 1) = (Z : Int) := by rw [IntWalk.i64_in _ (by omega)]; omega
                obtain ⟨T, hT⟩ : ∃ T : Nat, P + j = T := ⟨_, rfl⟩
                have hwT : IntKind.i64.wrap ((P : Int) + (j : Int)) = (T : Int) := by rw [IntWalk.i64_in _ (by omega)]; omega
                have hT1 : T < 80 := by omega
                have hT2 : (T : Int) < 80 := by omega
                obtain ⟨v0, hv0⟩ : ∃ v, Hid (wr.cell? ⟨gb, T, none⟩ = some v) := ⟨_, TB.out.cell hT1⟩
                have hv1 := hv0.out
                have hf1 := TB.out.unfrozen T
                have S3n := hide ((sl_farT S3.out TB.out (by intro i s h; cases h) T (.int .u8 (cb.toNat : Int))).more (show _ ≤ (wr.setCell ⟨gb, T, none⟩ (.int .u8 (cb.toNat : Int))).heap.size by simp))
                have Xdn := hide (Xd.out.far (p := ⟨gb, T, none⟩) (fun e => hTd e.symm) (.int .u8 (cb.toNat : Int)))
                have Xan := hide (Xa.out.far (p := ⟨gb, T, none⟩) (fun e => hTa e.symm) (.int .u8 (cb.toNat : Int)))
                have TBn := hide (tab_upd TB.out hT)
                have HBn := hide (HB.out.setCell (p := ⟨gb, T, none⟩) hwb (.int .u8 (cb.toNat : Int)))
                have hjZ : j + 1 + Z = L := by omega
                have hj1 : j + 1 ≤ L := by omega
                replace hT := hide hT
                replace hZ := hide hZ
                replace hjR := hide hjR
                clear Xd Xa S3 TB HB
                go_wp2_with fail
                go_roundw
                case rel => exact ⟨j + 1, Z, hj1, hjZ, rfl, by go_num, Xdn, Xan, S3n, TBn, HBn⟩
                case measure => simp [intOf]; omega
              · obtain rfl : j = L := by omega
                obtain rfl : R = 0 := by omega
                have hlti : (j : Int) < 4 := by omega
                obtain ⟨d_0, d_1, d_2, d_3, d_4, d_5⟩ := Xd.out.cells
                obtain ⟨a_0, a_1, a_2, a_3, a_4, a_5⟩ := Xa.out.cells
                go_upto_region 20 with (fail)
                have hX := Xd.out.set3 (.slice A3 80 c3) xl xd
                have hOa := far3 Xa.out hnad (.slice A3 80 c3) (.int .i64 xl) (.bool xd)
                have hS3 := S3.out.put (u := (.slice A3 80 c3)) (y := xl) (b := xd) Xd.out (by intro s h; cases h) (by intro s h; cases h)
                have hT := tab_far3 TB.out Xd.out (.slice A3 80 c3) (.int .i64 xl) (.bool xd)
                have hB := below_set3 HB.out hwd (.slice A3 80 c3) (.int .i64 xl) (.bool xd)
                (try clear d_0 d_1 d_2 d_3 d_4 d_5)
                (try clear a_0 a_1 a_2 a_3 a_4 a_5)
                replace Xd := hide hX
                replace Xa := hide hOa
                replace S3 := hide hS3
                replace TB := hide hT
                replace HB := hide hB
                clear hX hT hB hOa hS3
                generalize ((wr.setCell ⟨gd, 0, none⟩ (.slice A3 80 c3)).setCell ⟨gd, 1, none⟩ (.int .i64 xl)).setCell ⟨gd, 2, none⟩ (.bool xd) = w1 at *
                obtain ⟨w', hww⟩ : ∃ w', w' = w1 := ⟨_, rfl⟩
                subst hww
                clear Xa
                (try clear d_0 d_1 d_2 d_3 d_4 d_5)
                obtain ⟨d_0, d_1, d_2, d_3, d_4, d_5⟩ := Xd.out.cells
                have QT := hide (fun A c W hW => cStart (A := A) (n := 80) (c := c) (d := ⟨secsOf (upd bs P j cb), xl, xd⟩) (w := W) hW (by omega))
                unfold GivesK startD at QT
                simp only at QT
                go_wp2_with fail
                refine (QT.out _ _ _ S3.out).mono ?_
                rintro e w' ⟨A5, c5, rfl, hS5, hb⟩
                (try clear d_0 d_1 d_2 d_3 d_4 d_5)
                replace Xd := hide (Xd.out.kept hb)
                replace S3 := hide (S3.out.kept hb)
                replace TB := hide (TB.out.kept hb)
                replace HB := hide (Bel.then HB.out hb)
                have S5 := hide hS5
                clear hS5 hb S3 QT
                obtain ⟨d_0, d_1, d_2, d_3, d_4, d_5⟩ := Xd.out.cells
                go_upto_region 22 with (fail)
                have hX := Xd.out.set3 (.slice A5 80 c5) (-1) false
                have hS5 := S5.out.put (u := (.slice A5 80 c5)) (y := (-1)) (b := false) Xd.out (by intro s h; cases h) (by intro s h; cases h)
                have hT := tab_far3 TB.out Xd.out (.slice A5 80 c5) (.int .i64 (-1)) (.bool false)
                have hB := below_set3 HB.out hwd (.slice A5 80 c5) (.int .i64 (-1)) (.bool false)
                (try clear d_0 d_1 d_2 d_3 d_4 d_5)
                replace Xd := hide hX
                replace S5 := hide hS5
                replace TB := hide hT
                replace HB := hide hB
                clear hX hT hB  hS5
                generalize ((w'.setCell ⟨gd, 0, none⟩ (.slice A5 80 c5)).setCell ⟨gd, 1, none⟩ (.int .i64 (-1))).setCell ⟨gd, 2, none⟩ (.bool false) = w1 at *
                obtain ⟨w', hww⟩ : ∃ w', w' = w1 := ⟨_, rfl⟩
                subst hww
                have QR : Hid (∀ (jj : Nat), jj < 80 → ∀ (A : Option Addr) (c : Nat) (W : World), DkAt W A 80 c (secsOf (upd bs P j cb)) → Calls Try.prog 13 #[.agg #[.slice A 80 c, .int .i64 (-1), .bool false], .int .i64 (jj : Int)] W fun e w' => e = .returned (.tuple #[.string (repS 128 ((upd bs P j cb) jj)), .int .i64 0]) ∧ Below W.heap.size W w') := hide (fun jj h A c W hW => by have q0 := cRead (A := A) (n := 80) (c := c) (d := ⟨secsOf (upd bs P j cb), -1, false⟩) (w := W) (jj : Int) hW (by omega); unfold GivesR at q0; rw [cut_read _ jj h] at q0; exact q0)
                generalize hbs : (upd bs P j cb) = B at *
                clear hbs
                go_wp2_with fail
                go_loopw [14] (fun i wr => ∃ j : Nat, j ≤ 80 ∧ i = .int .i64 j ∧ Hid (DBox wr gd (.slice A5 80 c5) (-1) false) ∧ Hid (DkAt wr A5 80 c5 (secsOf B)) ∧ Hid (TabAt wr gb 5 (fun i => .int .u8 ((B i).toNat : Int)) 80) ∧ Hid (Below w.heap.size w wr)) (fun i _ => 80 - (intOf i).toNat)
                case atStart => exact ⟨0, Nat.zero_le _, rfl, Xd, S5, TB, HB⟩
                case round =>
                  obtain ⟨j, hj, rfl, Xd, S5, TB, HB⟩ := hrel
                  have hwj : IntKind.i64.wrap ((j : Int) + 1) = (j : Int) + 1 := IntWalk.i64_in _ (by omega)
                  by_cases hlt : j < 80
                  · have hlti : (j : Int) < 80 := by omega
                    obtain ⟨d_0, d_1, d_2, d_3, d_4, d_5⟩ := Xd.out.cells
                    have hrz : (((repS 128 (B j)).size : Int) != 128) = false := by rw [repS_size]; rfl
                    have hr0 := fun h => rep_at 128 (B j) 0 h
                    have hr1 := fun h => rep_at 128 (B j) 127 h
                    have hl0 : 0 < (repS 128 (B j)).size := by rw [repS_size]; omega
                    have hl1 : 127 < (repS 128 (B j)).size := by rw [repS_size]; omega
                    have hl2 : (0 : Int) < (repS 128 (B j)).size := by rw [repS_size]; decide
                    have hl3 : (127 : Int) < (repS 128 (B j)).size := by rw [repS_size]; decide
                    have q := QR.out j hlt
                    have Q := hide q
                    clear q
                    generalize repS 128 (B j) = r at *
                    go_wp2_with fail
                    refine (Q.out _ _ _ S5.out).mono ?_
                    rintro e w' ⟨rfl, hb⟩
                    (try clear d_0 d_1 d_2 d_3 d_4 d_5)
                    replace Xd := hide (Xd.out.kept hb)
                    replace S5 := hide (S5.out.kept hb)
                    replace TB := hide (TB.out.kept hb)
                    replace HB := hide (Bel.then HB.out hb)
                    clear hb
                    have tb := TB.out.cell hlt
                    have tbd : w'.drew.cell? ⟨gb, j, none⟩ = some (.int .u8 ((B j).toNat : Int)) := tb
                    generalize B j = y at *
                    go_upto_region 26 with (fail)
                    go_quiet (fail)
                    go_wp2_with fail
                    go_roundw
                    case rel => exact ⟨j + 1, by omega, by go_num, hide (Xd.out.kept (Bel.drewN (Below.refl _ _) _)), hide (S5.out.kept (Bel.drewN (Below.refl _ _) _)), hide (TB.out.kept (Bel.drewN (Below.refl _ _) _)), hide (Bel.then HB.out (Bel.drewN (Below.refl _ _) _))⟩
                    case measure => simp [intOf]; omega
                  · have hlti : ¬ (j : Int) < 80 := by omega
                    go_wp2_with fail
                    refine (QA.out _).mono ?_
                    rintro e w' ⟨rfl, hb⟩
                    replace HB := hide (Bel.then HB.out hb)
                    go_wp2_with fail
                    go_ret
                    exact ⟨rfl, HB.out⟩
        · go_simp
          refine hK.out _ _ (Xd.out.alloc (.cells #[.slice none 0 0, .int .i64 0, .bool false] 25)) (fun hHeld => ?_)
          clear hK K hHeld
          (try clear d_0 d_1 d_2 d_3 d_4 d_5)
          have hnda : gd ≠ w'.heap.size := by have h1 : gd < w'.heap.size := Xd.out.lt; omega
          have hwa : w.heap.size ≤ w'.heap.size := HB.out.size
          have hb : Below w'.drew.heap.size w'.drew ((w'.alloc (.cells #[.slice none 0 0, .int .i64 0, .bool false] 25)).drew) := Bel.one w'.drew (.cells #[.slice none 0 0, .int .i64 0, .bool false] 25)
          replace Xd := hide (Xd.out.kept hb)
          replace Sd := hide (Sd.out.kept hb)
          replace TB := hide (TB.out.kept hb)
          replace HB := hide (Bel.then HB.out hb)
          clear hb
          have Xa := hide (show DBox ((w'.alloc (.cells #[.slice none 0 0, .int .i64 0, .bool false] 25)).drew) w'.heap.size (.slice none 0 0) 0 false from dbox_new w' _ _ _)
          generalize (w'.alloc (.cells #[.slice none 0 0, .int .i64 0, .bool false] 25)).drew = w1 at *
          generalize w'.heap.size = ga at *
          obtain ⟨w', hww⟩ : ∃ w', w' = w1 := ⟨_, rfl⟩
          subst hww
          have hHeld := Xd.out
          obtain ⟨d_0, d_1, d_2, d_3, d_4, d_5⟩ := Xd.out.cells
          obtain ⟨a_0, a_1, a_2, a_3, a_4, a_5⟩ := Xa.out.cells
          (try simp only [Act.put]); (try simp only [List.setIfInBounds_toArray]); (try simp only [List.set_cons_succ]); (try simp only [List.set_cons_zero])
          refine wpAnyH_ready (rs := [5]) (by kernel_rfl) (by simp) ?_
          refine (AllReadyH.cons nth5 (fun K hK => ?_) AllReadyH.nil)
          go_simp
          refine (QPg.out _).mono ?_
          rintro e w' ⟨rfl, hb⟩
          (try clear d_0 d_1 d_2 d_3 d_4 d_5)
          (try clear a_0 a_1 a_2 a_3 a_4 a_5)
          replace Xd := hide (Xd.out.kept hb)
          replace Xa := hide (Xa.out.kept hb)
          replace Sd := hide (Sd.out.kept hb)
          replace TB := hide (TB.out.kept hb)
          replace HB := hide (Bel.then HB.out hb)
          clear hb
          obtain ⟨d_0, d_1, d_2, d_3, d_4, d_5⟩ := Xd.out.cells
          obtain ⟨a_0, a_1, a_2, a_3, a_4, a_5⟩ := Xa.out.cells
          refine hK.out _ _ Xd.out (fun hHeld => ?_)
          clear hK K
          (try simp only [Act.put]); (try simp only [List.setIfInBounds_toArray]); (try simp only [List.set_cons_succ]); (try simp only [List.set_cons_zero])
          refine wpAnyH_ready (rs := [6]) (by kernel_rfl) (by simp) ?_
          refine (AllReadyH.cons nth6 (fun K hK => ?_) AllReadyH.nil)
          go_simp
          refine (QG.out _ _ _ Sd.out).mono ?_
          rintro e w' ⟨A3, c3, rfl, hS3, hb⟩
          (try clear d_0 d_1 d_2 d_3 d_4 d_5)
          (try clear a_0 a_1 a_2 a_3 a_4 a_5)
          replace Xd := hide (Xd.out.kept hb)
          replace Xa := hide (Xa.out.kept hb)
          replace Sd := hide (Sd.out.kept hb)
          replace TB := hide (TB.out.kept hb)
          replace HB := hide (Bel.then HB.out hb)
          have S3 := hide hS3
          clear hS3 hb
          obtain ⟨d_0, d_1, d_2, d_3, d_4, d_5⟩ := Xd.out.cells
          obtain ⟨a_0, a_1, a_2, a_3, a_4, a_5⟩ := Xa.out.cells
          refine hK.out _ _ Xd.out (fun hHeld => ?_)
          clear hK K
          (try simp only [Act.put]); (try simp only [List.setIfInBounds_toArray]); (try simp only [List.set_cons_succ]); (try simp only [List.set_cons_zero])
          first | (refine wpAnyH_take (i := 7) (v := ?_) nth7 (by kernel_rfl) (by kernel_rfl) (by kernel_rfl) (fun _ _ _ h => h) (Or.inl ⟨by rfl, ?_⟩) hHeld ?_; rotate_left; focus (intro wS hSw; obtain ⟨d_0, d_1, d_2, d_3, d_4, d_5⟩ := hSw.cells; go_simp; try with_reducible rfl; done)) | fail
          (try simp only [Act.put]); (try simp only [List.setIfInBounds_toArray]); (try simp only [List.set_cons_succ]); (try simp only [List.set_cons_zero])
          first | (refine wpAnyH_take (i := 8) (v := ?_) nth8 (by kernel_rfl) (by kernel_rfl) (by kernel_rfl) (fun _ _ _ h => h) (Or.inl ⟨by rfl, ?_⟩) hHeld ?_; rotate_left; focus (intro wS hSw; obtain ⟨d_0, d_1, d_2, d_3, d_4, d_5⟩ := hSw.cells; go_simp; try with_reducible rfl; done)) | fail
          (try simp only [Act.put]); (try simp only [List.setIfInBounds_toArray]); (try simp only [List.set_cons_succ]); (try simp only [List.set_cons_zero])
          first | (refine wpAnyH_take (i := 9) (v := ?_) nth9 (by kernel_rfl) (by kernel_rfl) (by kernel_rfl) (fun _ _ _ h => h) (Or.inl ⟨by rfl, ?_⟩) hHeld ?_; rotate_left; focus (intro wS hSw; obtain ⟨d_0, d_1, d_2, d_3, d_4, d_5⟩ := hSw.cells; go_simp; try with_reducible rfl; done)) | fail
          (try simp only [Act.put]); (try simp only [List.setIfInBounds_toArray]); (try simp only [List.set_cons_succ]); (try simp only [List.set_cons_zero])
          refine wpAnyH_ready (rs := [11]) (by kernel_rfl) (by simp) ?_
          refine (AllReadyH.cons nth11 (fun K hK => ?_) AllReadyH.nil)
          go_simp
          have hX := Xa.out.set3 (.slice A3 80 c3) xl xd
          have hOd := far3 Xd.out hnda (.slice A3 80 c3) (.int .i64 xl) (.bool xd)
          have hSd := Sd.out.put (u := (.slice A3 80 c3)) (y := xl) (b := xd) Xa.out (by intro s h; cases h) (by intro s h; cases h)
          have hS3 := S3.out.put (u := (.slice A3 80 c3)) (y := xl) (b := xd) Xa.out (by intro s h; cases h) (by intro s h; cases h)
          have hT := tab_far3 TB.out Xa.out (.slice A3 80 c3) (.int .i64 xl) (.bool xd)
          have hB := below_set3 HB.out hwa (.slice A3 80 c3) (.int .i64 xl) (.bool xd)
          (try clear d_0 d_1 d_2 d_3 d_4 d_5)
          (try clear a_0 a_1 a_2 a_3 a_4 a_5)
          refine hK.out _ _ hOd (fun hHeld => ?_)
          clear hK K
          replace Xa := hide hX
          replace Xd := hide hOd
          replace Sd := hide hSd
          replace S3 := hide hS3
          replace TB := hide hT
          replace HB := hide hB
          clear hX hT hB hOd hSd hS3
          generalize ((w'.setCell ⟨ga, 0, none⟩ (.slice A3 80 c3)).setCell ⟨ga, 1, none⟩ (.int .i64 xl)).setCell ⟨ga, 2, none⟩ (.bool xd) = w1 at *
          obtain ⟨w', hww⟩ : ∃ w', w' = w1 := ⟨_, rfl⟩
          subst hww
          obtain ⟨d_0, d_1, d_2, d_3, d_4, d_5⟩ := Xd.out.cells
          obtain ⟨a_0, a_1, a_2, a_3, a_4, a_5⟩ := Xa.out.cells
          (try simp only [Act.put]); (try simp only [List.setIfInBounds_toArray]); (try simp only [List.set_cons_succ]); (try simp only [List.set_cons_zero])
          first | (refine wpAnyH_take (i := 12) (v := ?_) nth12 (by kernel_rfl) (by kernel_rfl) (by kernel_rfl) (fun _ _ _ h => h) (Or.inl ⟨by rfl, ?_⟩) hHeld ?_; rotate_left; focus (intro wS hSw; obtain ⟨d_0, d_1, d_2, d_3, d_4, d_5⟩ := hSw.cells; go_simp; try with_reducible rfl; done)) | fail
          (try simp only [Act.put]); (try simp only [List.setIfInBounds_toArray]); (try simp only [List.set_cons_succ]); (try simp only [List.set_cons_zero])
          refine wpAnyH_done (by kernel_rfl) ?_ _
          have hnad : ga ≠ gd := fun e => hnda e.symm
          have hTa : gb ≠ ga := tab_ne TB.out Xa.out
          have hTd : gb ≠ gd := tab_ne TB.out Xd.out
          clear Sd
          (try clear d_0 d_1 d_2 d_3 d_4 d_5)
          (try clear a_0 a_1 a_2 a_3 a_4 a_5)
          go_wp2_with fail
          go_loopw [8, 13] (fun l i wr => ∃ j R : Nat, j ≤ L ∧ j + R = L ∧ l = .int .i64 R ∧ i = .int .i64 j ∧ Hid (DBox wr gd (.slice A1 80 c1) L false) ∧ Hid (DBox wr ga (.slice A3 80 c3) xl xd) ∧ Hid (DkAt wr A3 80 c3 (secsOf (upd bs P L cb))) ∧ Hid (TabAt wr gb 5 (fun i => .int .u8 ((upd bs P j cb i).toNat : Int)) 80) ∧ Hid (Below w.heap.size w wr)) (fun _ i _ => 4 - (intOf i).toNat)
          case atStart => exact ⟨0, L, by omega, by omega, rfl, rfl, Xd, Xa, S3, (by rw [upd_zero]; exact TB), HB⟩
          case round =>
            obtain ⟨j, R, hj, hjR, rfl, rfl, Xd, Xa, S3, TB, HB⟩ := hrel
            have hwj : IntKind.i64.wrap ((j : Int) + 1) = (j : Int) + 1 := IntWalk.i64_in _ (by omega)
            by_cases hlt : j < L
            · have hlti : (j : Int) < 4 := by omega
              have hR1 : (0 : Int) < R := by omega
              have hR2 : 0 < R := by omega
              obtain ⟨Z, hZ⟩ : ∃ Z : Nat, Z + 1 = R := ⟨R - 1, by omega⟩
              have hwR : IntKind.i64.wrap ((R : Int) - 1) = (Z : Int) := by rw [IntWalk.i64_in _ (by omega)]; omega
              obtain ⟨T, hT⟩ : ∃ T : Nat, P + j = T := ⟨_, rfl⟩
              have hwT : IntKind.i64.wrap ((P : Int) + (j : Int)) = (T : Int) := by rw [IntWalk.i64_in _ (by omega)]; omega
              have hT1 : T < 80 := by omega
              have hT2 : (T : Int) < 80 := by omega
              obtain ⟨v0, hv0⟩ : ∃ v, Hid (wr.cell? ⟨gb, T, none⟩ = some v) := ⟨_, TB.out.cell hT1⟩
              have hv1 := hv0.out
              have hf1 := TB.out.unfrozen T
              have S3n := hide ((sl_farT S3.out TB.out (by intro i s h; cases h) T (.int .u8 (cb.toNat : Int))).more (show _ ≤ (wr.setCell ⟨gb, T, none⟩ (.int .u8 (cb.toNat : Int))).heap.size by simp))
              have Xdn := hide (Xd.out.far (p := ⟨gb, T, none⟩) (fun e => hTd e.symm) (.int .u8 (cb.toNat : Int)))
              have Xan := hide (Xa.out.far (p := ⟨gb, T, none⟩) (fun e => hTa e.symm) (.int .u8 (cb.toNat : Int)))
              have TBn := hide (tab_upd TB.out hT)
              have HBn := hide (HB.out.setCell (p := ⟨gb, T, none⟩) hwb (.int .u8 (cb.toNat : Int)))
              have hjZ : j + 1 + Z = L := by omega
              have hj1 : j + 1 ≤ L := by omega
              replace hT := hide hT
              replace hZ := hide hZ
              replace hjR := hide hjR
              clear Xd Xa S3 TB HB
              go_wp2_with fail
              go_roundw
              case rel => exact ⟨j + 1, Z, hj1, hjZ, rfl, by go_num, Xdn, Xan, S3n, TBn, HBn⟩
              case measure => simp [intOf]; omega
            · obtain rfl : j = L := by omega
              obtain rfl : R = 0 := by omega
              have hlti : (j : Int) < 4 := by omega
              obtain ⟨d_0, d_1, d_2, d_3, d_4, d_5⟩ := Xd.out.cells
              obtain ⟨a_0, a_1, a_2, a_3, a_4, a_5⟩ := Xa.out.cells
              go_upto_region 20 with (fail)
              have hX := Xd.out.set3 (.slice A3 80 c3) xl xd
              have hOa := far3 Xa.out hnad (.slice A3 80 c3) (.int .i64 xl) (.bool xd)
              have hS3 := S3.out.put (u := (.slice A3 80 c3)) (y := xl) (b := xd) Xd.out (by intro s h; cases h) (by intro s h; cases h)
              have hT := tab_far3 TB.out Xd.out (.slice A3 80 c3) (.int .i64 xl) (.bool xd)
              have hB := below_set3 HB.out hwd (.slice A3 80 c3) (.int .i64 xl) (.bool xd)
              (try clear d_0 d_1 d_2 d_3 d_4 d_5)
              (try clear a_0 a_1 a_2 a_3 a_4 a_5)
              replace Xd := hide hX
              replace Xa := hide hOa
              replace S3 := hide hS3
              replace TB := hide hT
              replace HB := hide hB
              clear hX hT hB hOa hS3
              generalize ((wr.setCell ⟨gd, 0, none⟩ (.slice A3 80 c3)).setCell ⟨gd, 1, none⟩ (.int .i64 xl)).setCell ⟨gd, 2, none⟩ (.bool xd) = w1 at *
              obtain ⟨w', hww⟩ : ∃ w', w' = w1 := ⟨_, rfl⟩
              subst hww
              clear Xa
              (try clear d_0 d_1 d_2 d_3 d_4 d_5)
              obtain ⟨d_0, d_1, d_2, d_3, d_4, d_5⟩ := Xd.out.cells
              have QT := hide (fun A c W hW => cStart (A := A) (n := 80) (c := c) (d := ⟨secsOf (upd bs P j cb), xl, xd⟩) (w := W) hW (by omega))
              unfold GivesK startD at QT
              simp only at QT
              go_wp2_with fail
              refine (QT.out _ _ _ S3.out).mono ?_
              rintro e w' ⟨A5, c5, rfl, hS5, hb⟩
              (try clear d_0 d_1 d_2 d_3 d_4 d_5)
              replace Xd := hide (Xd.out.kept hb)
              replace S3 := hide (S3.out.kept hb)
              replace TB := hide (TB.out.kept hb)
              replace HB := hide (Bel.then HB.out hb)
              have S5 := hide hS5
              clear hS5 hb S3 QT
              obtain ⟨d_0, d_1, d_2, d_3, d_4, d_5⟩ := Xd.out.cells
              go_upto_region 22 with (fail)
              have hX := Xd.out.set3 (.slice A5 80 c5) (-1) false
              have hS5 := S5.out.put (u := (.slice A5 80 c5)) (y := (-1)) (b := false) Xd.out (by intro s h; cases h) (by intro s h; cases h)
              have hT := tab_far3 TB.out Xd.out (.slice A5 80 c5) (.int .i64 (-1)) (.bool false)
              have hB := below_set3 HB.out hwd (.slice A5 80 c5) (.int .i64 (-1)) (.bool false)
              (try clear d_0 d_1 d_2 d_3 d_4 d_5)
              replace Xd := hide hX
              replace S5 := hide hS5
              replace TB := hide hT
              replace HB := hide hB
              clear hX hT hB  hS5
              generalize ((w'.setCell ⟨gd, 0, none⟩ (.slice A5 80 c5)).setCell ⟨gd, 1, none⟩ (.int .i64 (-1))).setCell ⟨gd, 2, none⟩ (.bool false) = w1 at *
              obtain ⟨w', hww⟩ : ∃ w', w' = w1 := ⟨_, rfl⟩
              subst hww
              have QR : Hid (∀ (jj : Nat), jj < 80 → ∀ (A : Option Addr) (c : Nat) (W : World), DkAt W A 80 c (secsOf (upd bs P j cb)) → Calls Try.prog 13 #[.agg #[.slice A 80 c, .int .i64 (-1), .bool false], .int .i64 (jj : Int)] W fun e w' => e = .returned (.tuple #[.string (repS 128 ((upd bs P j cb) jj)), .int .i64 0]) ∧ Below W.heap.size W w') := hide (fun jj h A c W hW => by have q0 := cRead (A := A) (n := 80) (c := c) (d := ⟨secsOf (upd bs P j cb), -1, false⟩) (w := W) (jj : Int) hW (by omega); unfold GivesR at q0; rw [cut_read _ jj h] at q0; exact q0)
              generalize hbs : (upd bs P j cb) = B at *
              clear hbs
              go_wp2_with fail
              go_loopw [14] (fun i wr => ∃ j : Nat, j ≤ 80 ∧ i = .int .i64 j ∧ Hid (DBox wr gd (.slice A5 80 c5) (-1) false) ∧ Hid (DkAt wr A5 80 c5 (secsOf B)) ∧ Hid (TabAt wr gb 5 (fun i => .int .u8 ((B i).toNat : Int)) 80) ∧ Hid (Below w.heap.size w wr)) (fun i _ => 80 - (intOf i).toNat)
              case atStart => exact ⟨0, Nat.zero_le _, rfl, Xd, S5, TB, HB⟩
              case round =>
                obtain ⟨j, hj, rfl, Xd, S5, TB, HB⟩ := hrel
                have hwj : IntKind.i64.wrap ((j : Int) + 1) = (j : Int) + 1 := IntWalk.i64_in _ (by omega)
                by_cases hlt : j < 80
                · have hlti : (j : Int) < 80 := by omega
                  obtain ⟨d_0, d_1, d_2, d_3, d_4, d_5⟩ := Xd.out.cells
                  have hrz : (((repS 128 (B j)).size : Int) != 128) = false := by rw [repS_size]; rfl
                  have hr0 := fun h => rep_at 128 (B j) 0 h
                  have hr1 := fun h => rep_at 128 (B j) 127 h
                  have hl0 : 0 < (repS 128 (B j)).size := by rw [repS_size]; omega
                  have hl1 : 127 < (repS 128 (B j)).size := by rw [repS_size]; omega
                  have hl2 : (0 : Int) < (repS 128 (B j)).size := by rw [repS_size]; decide
                  have hl3 : (127 : Int) < (repS 128 (B j)).size := by rw [repS_size]; decide
                  have q := QR.out j hlt
                  have Q := hide q
                  clear q
                  generalize repS 128 (B j) = r at *
                  go_wp2_with fail
                  refine (Q.out _ _ _ S5.out).mono ?_
                  rintro e w' ⟨rfl, hb⟩
                  (try clear d_0 d_1 d_2 d_3 d_4 d_5)
                  replace Xd := hide (Xd.out.kept hb)
                  replace S5 := hide (S5.out.kept hb)
                  replace TB := hide (TB.out.kept hb)
                  replace HB := hide (Bel.then HB.out hb)
                  clear hb
                  have tb := TB.out.cell hlt
                  have tbd : w'.drew.cell? ⟨gb, j, none⟩ = some (.int .u8 ((B j).toNat : Int)) := tb
                  generalize B j = y at *
                  go_upto_region 26 with (fail)
                  go_quiet (fail)
                  go_wp2_with fail
                  go_roundw
                  case rel => exact ⟨j + 1, by omega, by go_num, hide (Xd.out.kept (Bel.drewN (Below.refl _ _) _)), hide (S5.out.kept (Bel.drewN (Below.refl _ _) _)), hide (TB.out.kept (Bel.drewN (Below.refl _ _) _)), hide (Bel.then HB.out (Bel.drewN (Below.refl _ _) _))⟩
                  case measure => simp [intOf]; omega
                · have hlti : ¬ (j : Int) < 80 := by omega
                  go_wp2_with fail
                  refine (QA.out _).mono ?_
                  rintro e w' ⟨rfl, hb⟩
                  replace HB := hide (Bel.then HB.out hb)
                  go_wp2_with fail
                  go_ret
                  exact ⟨rfl, HB.out⟩
    · have hlti : ¬ (k : Int) < n := by omega
      obtain ⟨w', hww⟩ : ∃ w', w' = wr := ⟨_, rfl⟩
      subst hww
      (try clear d_0 d_1 d_2 d_3 d_4 d_5)
      obtain ⟨d_0, d_1, d_2, d_3, d_4, d_5⟩ := Xd.out.cells
      have QT := hide (fun A c W hW => cStart (A := A) (n := 80) (c := c) (d := ⟨secsOf bs, (L : Int), false⟩) (w := W) hW (by omega))
      unfold GivesK startD at QT
      simp only at QT
      go_wp2_with fail
      refine (QT.out _ _ _ Sd.out).mono ?_
      rintro e w' ⟨A5, c5, rfl, hS5, hb⟩
      (try clear d_0 d_1 d_2 d_3 d_4 d_5)
      replace Xd := hide (Xd.out.kept hb)
      replace Sd := hide (Sd.out.kept hb)
      replace TB := hide (TB.out.kept hb)
      replace HB := hide (Bel.then HB.out hb)
      have S5 := hide hS5
      clear hS5 hb Sd QT
      obtain ⟨d_0, d_1, d_2, d_3, d_4, d_5⟩ := Xd.out.cells
      go_upto_region 22 with (fail)
      have hX := Xd.out.set3 (.slice A5 80 c5) (-1) false
      have hS5 := S5.out.put (u := (.slice A5 80 c5)) (y := (-1)) (b := false) Xd.out (by intro s h; cases h) (by intro s h; cases h)
      have hT := tab_far3 TB.out Xd.out (.slice A5 80 c5) (.int .i64 (-1)) (.bool false)
      have hB := below_set3 HB.out hwd (.slice A5 80 c5) (.int .i64 (-1)) (.bool false)
      (try clear d_0 d_1 d_2 d_3 d_4 d_5)
      replace Xd := hide hX
      replace S5 := hide hS5
      replace TB := hide hT
      replace HB := hide hB
      clear hX hT hB  hS5
      generalize ((w'.setCell ⟨gd, 0, none⟩ (.slice A5 80 c5)).setCell ⟨gd, 1, none⟩ (.int .i64 (-1))).setCell ⟨gd, 2, none⟩ (.bool false) = w1 at *
      obtain ⟨w', hww⟩ : ∃ w', w' = w1 := ⟨_, rfl⟩
      subst hww
      have QR : Hid (∀ (jj : Nat), jj < 80 → ∀ (A : Option Addr) (c : Nat) (W : World), DkAt W A 80 c (secsOf bs) → Calls Try.prog 13 #[.agg #[.slice A 80 c, .int .i64 (-1), .bool false], .int .i64 (jj : Int)] W fun e w' => e = .returned (.tuple #[.string (repS 128 (bs jj)), .int .i64 0]) ∧ Below W.heap.size W w') := hide (fun jj h A c W hW => by have q0 := cRead (A := A) (n := 80) (c := c) (d := ⟨secsOf bs, -1, false⟩) (w := W) (jj : Int) hW (by omega); unfold GivesR at q0; rw [cut_read _ jj h] at q0; exact q0)
      generalize hbs : bs = B at *
      clear hbs
      go_wp2_with fail
      go_loopw [14] (fun i wr => ∃ j : Nat, j ≤ 80 ∧ i = .int .i64 j ∧ Hid (DBox wr gd (.slice A5 80 c5) (-1) false) ∧ Hid (DkAt wr A5 80 c5 (secsOf B)) ∧ Hid (TabAt wr gb 5 (fun i => .int .u8 ((B i).toNat : Int)) 80) ∧ Hid (Below w.heap.size w wr)) (fun i _ => 80 - (intOf i).toNat)
      case atStart => exact ⟨0, Nat.zero_le _, rfl, Xd, S5, TB, HB⟩
      case round =>
        obtain ⟨j, hj, rfl, Xd, S5, TB, HB⟩ := hrel
        have hwj : IntKind.i64.wrap ((j : Int) + 1) = (j : Int) + 1 := IntWalk.i64_in _ (by omega)
        by_cases hlt : j < 80
        · have hlti : (j : Int) < 80 := by omega
          obtain ⟨d_0, d_1, d_2, d_3, d_4, d_5⟩ := Xd.out.cells
          have hrz : (((repS 128 (B j)).size : Int) != 128) = false := by rw [repS_size]; rfl
          have hr0 := fun h => rep_at 128 (B j) 0 h
          have hr1 := fun h => rep_at 128 (B j) 127 h
          have hl0 : 0 < (repS 128 (B j)).size := by rw [repS_size]; omega
          have hl1 : 127 < (repS 128 (B j)).size := by rw [repS_size]; omega
          have hl2 : (0 : Int) < (repS 128 (B j)).size := by rw [repS_size]; decide
          have hl3 : (127 : Int) < (repS 128 (B j)).size := by rw [repS_size]; decide
          have q := QR.out j hlt
          have Q := hide q
          clear q
          generalize repS 128 (B j) = r at *
          go_wp2_with fail
          refine (Q.out _ _ _ S5.out).mono ?_
          rintro e w' ⟨rfl, hb⟩
          (try clear d_0 d_1 d_2 d_3 d_4 d_5)
          replace Xd := hide (Xd.out.kept hb)
          replace S5 := hide (S5.out.kept hb)
          replace TB := hide (TB.out.kept hb)
          replace HB := hide (Bel.then HB.out hb)
          clear hb
          have tb := TB.out.cell hlt
          have tbd : w'.drew.cell? ⟨gb, j, none⟩ = some (.int .u8 ((B j).toNat : Int)) := tb
          generalize B j = y at *
          go_upto_region 26 with (fail)
          go_quiet (fail)
          go_wp2_with fail
          go_roundw
          case rel => exact ⟨j + 1, by omega, by go_num, hide (Xd.out.kept (Bel.drewN (Below.refl _ _) _)), hide (S5.out.kept (Bel.drewN (Below.refl _ _) _)), hide (TB.out.kept (Bel.drewN (Below.refl _ _) _)), hide (Bel.then HB.out (Bel.drewN (Below.refl _ _) _))⟩
          case measure => simp [intOf]; omega
        · have hlti : ¬ (j : Int) < 80 := by omega
          go_wp2_with fail
          refine (QA.out _).mono ?_
          rintro e w' ⟨rfl, hb⟩
          replace HB := hide (Bel.then HB.out hb)
          go_wp2_with fail
          go_ret
          exact ⟨rfl, HB.out⟩
end Go.Proofs.Ytdfpmjfnlcccaaa
