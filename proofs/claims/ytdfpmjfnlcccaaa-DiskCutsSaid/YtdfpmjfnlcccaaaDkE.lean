/- The contracts of ReadPage. -/
import Derived.Test.YtdfpmjfnlcccaaaDkD
namespace Go.Proofs.Ytdfpmjfnlcccaaa
set_option linter.unusedVariables false
open Go.ChangeShapes Go.WideShapes Go.ChangeAt Go.RowKit

theorem page_size {l : List ByteArray} (hs : ∀ s ∈ l, s.size = 128) (a : Nat) : ∀ k, (pageAt l a k).size ≤ 128 * k
  | 0 => by show (0 : Nat) ≤ _; omega
  | k + 1 => by
    have ih := page_size hs a k
    cases h : l[a + k]? with
    | none =>
      have e : pageAt l a (k + 1) = pageAt l a k := by
        unfold pageAt
        have h1 : (l.drop a)[k]? = none := by rw [List.getElem?_drop]; exact h
        have h2 := List.getElem?_eq_none_iff.1 h1
        rw [List.take_of_length_le h2, List.take_of_length_le (by omega)]
      rw [e]
      omega
    | some s =>
      rw [pageAt_snoc h, ByteArray.size_append, hs s (List.mem_of_getElem? h)]
      omega
/-- How far a page has been read. -/
def RpAt (d : DiskV) (at' : Int) (k : Nat) (s : ByteArray) : Prop := s = pageAt d.secs at'.toNat k ∧ (0 < k → d.down = false ∧ 0 ≤ at' ∧ at' + k ≤ d.secs.length)
/-- What the next sector says of the page. -/
theorem rp_step {d : DiskV} {at' : Int} {k : Nat} {s : ByteArray} (hk : k < 4) (h : RpAt d at' k s) (hn : d.secs.length ≤ 1048576) (hw : ∀ i : Nat, i < 4 → 0 ≤ at' → at' ≤ 1048576 → IntKind.i64.wrap (at' + i) = at' + i) :
    (∃ (hz : (0 ≤ at' ∧ at' ≤ 1048576) ∨ k = 0), (readD d (at' + k)).2 ≠ 0 ∧ readP d at' = (.empty, (readD d (at' + k)).2)) ∨ (0 ≤ at' ∧ at' ≤ 1048576 ∧ ∃ z, readD d (at' + k) = (z, 0) ∧ RpAt d at' (k + 1) (s ++ z)) := by
  obtain ⟨h1, h2⟩ := h
  rcases readD_cases d (at' + k) with ⟨h0, hr⟩ | ⟨h0, h3, hr⟩ | ⟨h0, h3, h4, hr⟩ | ⟨h0, j, h3, h4, hr⟩
  · left
    have hk0 : k = 0 := by
      rcases Nat.eq_zero_or_pos k with e | e
      · exact e
      · have := (h2 e).1; rw [h0] at this; cases this
    exact ⟨.inr hk0, by rw [hr]; decide, by rw [hr]; unfold readP; rw [if_pos h0]⟩
  · left
    have hk0 : k = 0 := by
      rcases Nat.eq_zero_or_pos k with e | e
      · exact e
      · have := (h2 e).2.1; omega
    exact ⟨.inr hk0, by rw [hr]; decide, by rw [hr]; unfold readP; rw [if_neg (by rw [h0]; simp), if_pos (by omega)]⟩
  · left
    refine ⟨?_, by rw [hr]; decide, by rw [hr]; unfold readP; rw [if_neg (by rw [h0]; simp), if_pos (by omega)]⟩
    rcases Nat.eq_zero_or_pos k with e | e
    · exact .inr e
    · have := (h2 e).2; exact .inl ⟨by omega, by omega⟩
  · right
    have ha : 0 ≤ at' := by
      rcases Nat.eq_zero_or_pos k with e | e
      · omega
      · exact (h2 e).2.1
    refine ⟨ha, by omega, _, hr, ?_, fun _ => ⟨h0, ha, by omega⟩⟩
    rw [h1, pageAt_snoc]
    rw [show at'.toNat + k = j by omega, List.getElem?_eq_getElem h3]
theorem rp_end {d : DiskV} {at' : Int} {s : ByteArray} (h : RpAt d at' 4 s) : readP d at' = (s, 0) := by
  obtain ⟨h1, h2⟩ := h
  have := h2 (by omega)
  unfold readP
  rw [if_neg (by rw [this.1]; simp), if_neg (by omega), h1]
def pageErr (x : ByteArray × Int) (k : Int) : Prop := x = (.empty, k)
set_option maxRecDepth 100000 in
set_option maxHeartbeats 1000000 in
theorem ReadPage_c (A : Option Addr) (n c : Nat) (d : DiskV) (at' : Int) (w : World) (h : SlAt stC 1 w w.heap.size A n c d.secs) (hn : n ≤ 1048576) (hs : ∀ s ∈ d.secs, s.size = 128) (ha : -9223372036854775808 ≤ at' ∧ at' ≤ 9223372036854775807) :
    Calls Try.prog 18 #[diskAgg A n c d.left d.down, .int .i64 at'] w (GivesR w (readP d at')) := by
  have hlen := h.len
  have H := hide (h.kept (Bel.one w (.cells #[.slice A n c, .int .i64 d.left, .bool d.down] 25)))
  have D0 := hide (dbox_new w (.slice A n c) d.left d.down)
  have HS := hide hs
  have HZ := hide (fun s => @rp_end d at' s)
  have HST := hide (fun k s h1 h2 => @rp_step d at' k s h1 h2 (by omega) (fun i hi h3 h4 => IntWalk.i64_in _ (by omega)))
  have QR := hide (fun (a : Int) (W : World) h1 => Read_c A n c d a W h1 hn)
  have HB1 := hide (Bel.one w (.cells #[.slice A n c, .int .i64 d.left, .bool d.down] 25))
  have HA := hide ha
  unfold diskAgg at *
  generalize hR : readP d at' = R at *
  clear h hlen hs hR ha
  go_enter Try.func18, Try.ntmps18
  go_wp2_with fail
  go_loopw [6, 10] (fun p i wr => ∃ k : Nat, ∃ s : ByteArray, k ≤ 4 ∧ i = .int .i64 k ∧ p = .string s ∧ Hid (RpAt d at' k s) ∧ Hid (DBox wr w.heap.size (.slice A n c) d.left d.down) ∧ Hid (SlAt stC 1 wr wr.heap.size A n c d.secs) ∧ Hid (Below w.heap.size w wr)) (fun _ i _ => 4 - (intOf i).toNat)
  case atStart => exact ⟨0, .empty, by omega, rfl, rfl, ⟨rfl, fun h => by omega⟩, D0, H, HB1⟩
  case round =>
    obtain ⟨k, s, hk, rfl, rfl, HP, D, HSl, HB⟩ := hrel
    clear H D0 HB1
    have hwk : IntKind.i64.wrap ((k : Int) + 1) = (k : Int) + 1 := IntWalk.i64_in _ (by omega)
    obtain ⟨c0, c1, c2, f0, f1, f2⟩ := D.out.cells
    by_cases hlt : k < 4
    · have hlti : (k : Int) < 4 := by omega
      have hsz : (s.size : Int) ≤ 512 := by have := page_size HS.out at'.toNat k; rw [← HP.out.1] at this; omega
      rcases HST.out k s hlt HP.out with ⟨hz, h1, h2⟩ | ⟨ha0, ha1, z, h1, h2⟩
      · have hwa : IntKind.i64.wrap (at' + (k : Int)) = at' + k := by
          rcases hz with hz | hz
          · exact IntWalk.i64_in _ (by omega)
          · have := HA.out; exact IntWalk.i64_in _ (by omega)
        have Q := hide (QR.out (at' + k) wr HSl.out)
        have hne : ((readD d (at' + (k : Int))).2 != 0) = true := by rw [bne_iff_ne]; exact h1
        generalize readD d (at' + (k : Int)) = r at *
        obtain ⟨rs, re⟩ := r
        simp only at hne h2
        have H2 := hide h2
        clear hz h1 h2 HST QR HP
        unfold GivesR at Q
        go_wp2_with fail
        refine Q.out.mono ?_
        rintro e w3 ⟨rfl, hb⟩
        have HB3 := hide (Bel.then HB.out hb)
        clear hb Q
        go_wp2_with fail
        go_ret2
        unfold GivesR
        rw [H2.out]
        exact ⟨rfl, HB3.out⟩
      · have hwa : IntKind.i64.wrap (at' + (k : Int)) = at' + k := IntWalk.i64_in _ (by omega)
        have Q := hide (QR.out (at' + k) wr HSl.out)
        rw [h1] at Q
        have hzz : z.size ≤ 128 := by
          rcases readD_cases d (at' + k) with ⟨_, hr⟩ | ⟨_, _, hr⟩ | ⟨_, _, _, hr⟩ | ⟨_, j, hj, _, hr⟩
          · rw [hr] at h1; injection h1 with _ e; cases e
          · rw [hr] at h1; injection h1 with _ e; cases e
          · rw [hr] at h1; injection h1 with _ e; cases e
          · rw [hr] at h1; injection h1 with e _; rw [← e, HS.out _ (List.getElem_mem hj)]; omega
        have hzi : (z.size : Int) ≤ 128 := by omega
        have H2 := hide h2
        clear h1 h2 HST QR HP hzz
        unfold GivesR at Q
        go_wp2_with fail
        refine Q.out.mono ?_
        rintro e w3 ⟨rfl, hb⟩
        have HB3 := hide (Bel.then HB.out hb)
        have D3 := hide (D.out.kept hb)
        have S3 := hide (HSl.out.kept hb)
        clear hb Q
        go_wp2_with fail
        go_roundw
        case rel => exact ⟨k + 1, _, by omega, by go_num, rfl, H2, D3, S3, HB3⟩
        case measure => simp [intOf]; omega
    · obtain rfl : k = 4 := by omega
      have HE := hide (HZ.out _ HP.out)
      clear HST QR HP HZ
      have hlti : ¬ ((4 : Nat) : Int) < 4 := by omega
      go_wp2_with fail
      go_ret2
      unfold GivesR
      rw [HE.out]
      exact ⟨rfl, HB.out⟩
set_option maxRecDepth 100000 in
set_option maxHeartbeats 1000000 in
theorem rReadPage_c (A : Option Addr) (n c : Nat) (d : DiskV) (at' : Int) (w : World) (h : SlAt stC 1 w w.heap.size A n c d.secs) (hn : n ≤ 1048576) (hs : ∀ s ∈ d.secs, s.size = 128) (ha : -9223372036854775808 ≤ at' ∧ at' ≤ 9223372036854775807) :
    Calls Try.prog 19 #[diskAgg A n c d.left d.down, .int .i64 at'] w (GivesR w (readP d at')) := by
  have hlen := h.len
  have H := hide (h.kept (Bel.one w (.cells #[.slice A n c, .int .i64 d.left, .bool d.down] 25)))
  have D0 := hide (dbox_new w (.slice A n c) d.left d.down)
  have HS := hide hs
  have HZ := hide (fun s => @rp_end d at' s)
  have HST := hide (fun k s h1 h2 => @rp_step d at' k s h1 h2 (by omega) (fun i hi h3 h4 => IntWalk.i64_in _ (by omega)))
  have QR := hide (fun (a : Int) (W : World) h1 => rRead_c A n c d a W h1 hn)
  have HB1 := hide (Bel.one w (.cells #[.slice A n c, .int .i64 d.left, .bool d.down] 25))
  have HA := hide ha
  unfold diskAgg at *
  generalize hR : readP d at' = R at *
  by_cases hbig : 1099511627776 < at'
  · have hbe : readD d 1099511627776 = (.empty, R.2) ∧ R.1 = .empty ∧ R.2 ≠ 0 := by
      rw [← hR]
      unfold readD readP
      by_cases hd : d.down = true
      · rw [if_pos hd, if_pos hd]; exact ⟨rfl, rfl, by decide⟩
      · rw [if_neg hd, if_neg hd, if_pos (by omega), if_pos (by omega)]; exact ⟨rfl, rfl, by decide⟩
    obtain ⟨rs, re⟩ := R
    simp only at hbe
    obtain ⟨g1, rfl, g3⟩ := hbe
    have Q := hide (QR.out 1099511627776 _ H.out)
    rw [g1] at Q
    have hne : (re != 0) = true := by rw [bne_iff_ne]; exact g3
    have hwa : IntKind.i64.wrap (1099511627776 + 0) = 1099511627776 := by decide
    have hwb : IntKind.i64.wrap (1099511627776 : Int) = 1099511627776 := by decide
    clear g1 g3 hR h hlen hs ha QR HST HZ
    unfold GivesR at Q
    go_enter Try.func19, Try.ntmps19
    go_wp2_with fail
    refine wp_loop_rounds 2 ?_
    rw [rounds_succ]
    go_wp2_with fail
    refine Q.out.mono ?_
    rintro e w3 ⟨rfl, hb⟩
    have HB3 := hide (Bel.then HB1.out hb)
    clear hb Q
    go_wp2_with fail
    go_ret2
    exact ⟨rfl, HB3.out⟩
  clear hR h hlen hs ha
  go_enter Try.func19, Try.ntmps19
  go_wp2_with fail
  go_loopw [1, 6, 7] (fun q p i wr => ∃ k : Nat, ∃ s : ByteArray, k ≤ 4 ∧ q = .int .i64 at' ∧ i = .int .i64 k ∧ p = .string s ∧ Hid (RpAt d at' k s) ∧ Hid (DBox wr w.heap.size (.slice A n c) d.left d.down) ∧ Hid (SlAt stC 1 wr wr.heap.size A n c d.secs) ∧ Hid (Below w.heap.size w wr)) (fun _ _ i _ => 4 - (intOf i).toNat)
  case atStart => exact ⟨0, .empty, by omega, rfl, rfl, rfl, ⟨rfl, fun h => by omega⟩, D0, H, HB1⟩
  case round =>
    obtain ⟨k, s, hk, rfl, rfl, rfl, HP, D, HSl, HB⟩ := hrel
    clear H D0 HB1
    have hwk : IntKind.i64.wrap ((k : Int) + 1) = (k : Int) + 1 := IntWalk.i64_in _ (by omega)
    obtain ⟨c0, c1, c2, f0, f1, f2⟩ := D.out.cells
    by_cases hlt : k < 4
    · have hlti : (k : Int) < 4 := by omega
      have hsz : (s.size : Int) ≤ 512 := by have := page_size HS.out at'.toNat k; rw [← HP.out.1] at this; omega
      rcases HST.out k s hlt HP.out with ⟨hz, h1, h2⟩ | ⟨ha0, ha1, z, h1, h2⟩
      · have hwa : IntKind.i64.wrap (at' + (k : Int)) = at' + k := by
          rcases hz with hz | hz
          · exact IntWalk.i64_in _ (by omega)
          · have := HA.out; exact IntWalk.i64_in _ (by omega)
        have Q := hide (QR.out (at' + k) wr HSl.out)
        have hne : ((readD d (at' + (k : Int))).2 != 0) = true := by rw [bne_iff_ne]; exact h1
        generalize readD d (at' + (k : Int)) = r at *
        obtain ⟨rs, re⟩ := r
        simp only at hne h2
        have H2 := hide h2
        clear hz h1 h2 HST QR HP
        unfold GivesR at Q
        go_wp2_with fail
        refine Q.out.mono ?_
        rintro e w3 ⟨rfl, hb⟩
        have HB3 := hide (Bel.then HB.out hb)
        clear hb Q
        go_wp2_with fail
        go_ret2
        unfold GivesR
        rw [H2.out]
        exact ⟨rfl, HB3.out⟩
      · have hwa : IntKind.i64.wrap (at' + (k : Int)) = at' + k := IntWalk.i64_in _ (by omega)
        have Q := hide (QR.out (at' + k) wr HSl.out)
        rw [h1] at Q
        have hzz : z.size ≤ 128 := by
          rcases readD_cases d (at' + k) with ⟨_, hr⟩ | ⟨_, _, hr⟩ | ⟨_, _, _, hr⟩ | ⟨_, j, hj, _, hr⟩
          · rw [hr] at h1; injection h1 with _ e; cases e
          · rw [hr] at h1; injection h1 with _ e; cases e
          · rw [hr] at h1; injection h1 with _ e; cases e
          · rw [hr] at h1; injection h1 with e _; rw [← e, HS.out _ (List.getElem_mem hj)]; omega
        have hzi : (z.size : Int) ≤ 128 := by omega
        have H2 := hide h2
        clear h1 h2 HST QR HP hzz
        unfold GivesR at Q
        go_wp2_with fail
        refine Q.out.mono ?_
        rintro e w3 ⟨rfl, hb⟩
        have HB3 := hide (Bel.then HB.out hb)
        have D3 := hide (D.out.kept hb)
        have S3 := hide (HSl.out.kept hb)
        clear hb Q
        go_wp2_with fail
        go_roundw
        case rel => exact ⟨k + 1, _, by omega, rfl, by go_num, rfl, H2, D3, S3, HB3⟩
        case measure => simp [intOf]; omega
    · obtain rfl : k = 4 := by omega
      have HE := hide (HZ.out _ HP.out)
      clear HST QR HP HZ
      have hlti : ¬ ((4 : Nat) : Int) < 4 := by omega
      go_wp2_with fail
      go_ret2
      unfold GivesR
      rw [HE.out]
      exact ⟨rfl, HB.out⟩
end Go.Proofs.Ytdfpmjfnlcccaaa
