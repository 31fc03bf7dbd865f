/- The contract of the reference: which beginnings of a text the first signs match. -/
import Derived.Test.YtlkeghfdpbfhbaaLkI
import Derived.Test.YtlkeghfdpbfhbaaTab
namespace Go.Proofs.Ytlkeghfdpbfhbaa
set_option linter.unusedVariables false
open Go.ChangeShapes Go.WideShapes Go.ChangeAt Go.RowKit

theorem bool_info : (Try.prog.info? 4).map (fun i => (i.zero, i.size, i.bytes)) = some (some (.bool false), 1, 1) := by kernel_rfl
/-- The first j signs match the first n bytes. -/
def tm (l : List Sg) (s : List UInt8) (j n : Nat) : Bool := matchS (l.take j) (s.take n)
theorem tm_zero (l : List Sg) (s : List UInt8) (n : Nat) (h : n ≤ s.length) : tm l s 0 n = (n == 0) := by
  unfold tm
  rw [List.take_zero, match_nil]
  cases n with
  | zero => rfl
  | succ n =>
    cases s with
    | nil => simp at h
    | cons c s => rfl
theorem tm_end (l : List Sg) (s : List UInt8) : tm l s l.length s.length = matchS l s := by unfold tm; rw [List.take_length, List.take_length]
theorem tm_all0 {l : List Sg} {s : List UInt8} {j : Nat} (h : l[j]? = some .all) : tm l s (j + 1) 0 = tm l s j 0 := by
  unfold tm
  rw [take_at h, List.take_zero, match_snoc_all_nil]
theorem tm_all {l : List Sg} {s : List UInt8} {j n : Nat} (h : l[j]? = some .all) (hn : n < s.length) : tm l s (j + 1) (n + 1) = (tm l s j (n + 1) || tm l s (j + 1) n) := by
  unfold tm
  rw [take_at h, take_at (List.getElem?_eq_getElem hn), match_snoc_all]
theorem tm_one0 {l : List Sg} {s : List UInt8} {j : Nat} {g : Sg} (h : l[j]? = some g) (hg : g.isAll = false) : tm l s (j + 1) 0 = false := by
  unfold tm
  rw [take_at h, List.take_zero, match_snoc_single_nil _ hg]
theorem tm_one {l : List Sg} {s : List UInt8} {j n : Nat} {g : Sg} {c : UInt8} (h : l[j]? = some g) (hg : g.isAll = false) (hc : s[n]? = some c) : tm l s (j + 1) (n + 1) = (g.fits c && tm l s j n) := by
  unfold tm
  rw [take_at h, take_at hc, match_snoc_single _ hg]
/-- The row that is being filled: up to n. -/
def part (f : Nat → Bool) (n : Nat) (i : Nat) : Value := .bool (decide (i < n) && f i)
theorem part_set {w : World} {b N n : Nat} {t : TypeId} {f : Nat → Bool} {u : Bool} (h : TabAt w b t (part f n) N) (hu : f n = u) : TabAt (w.setCell ⟨b, n, none⟩ (.bool u)) b t (part f (n + 1)) N := by
  refine (h.set n (.bool u)).congr fun i _ => ?_
  unfold part
  by_cases hi : i = n
  · subst hi; simp [hu]
  · rw [if_neg hi]
    have : decide (i < n + 1) = decide (i < n) := by rw [Bool.eq_iff_iff, decide_eq_true_iff, decide_eq_true_iff]; omega
    rw [this]
theorem part_skip {w : World} {b N n : Nat} {t : TypeId} {f : Nat → Bool} (h : TabAt w b t (part f n) N) (hu : f n = false) : TabAt w b t (part f (n + 1)) N := by
  refine h.congr fun i _ => ?_
  unfold part
  by_cases hi : i = n
  · subst hi; simp [hu]
  · have : decide (i < n + 1) = decide (i < n) := by rw [Bool.eq_iff_iff, decide_eq_true_iff, decide_eq_true_iff]; omega
    rw [this]
theorem part_full {w : World} {b N : Nat} {t : TypeId} {f : Nat → Bool} (h : TabAt w b t (part f N) N) : TabAt w b t (fun i => .bool (f i)) N := by
  refine h.congr fun i hi => ?_
  unfold part
  simp [hi]
theorem part_none {w : World} {b N : Nat} {t : TypeId} (f : Nat → Bool) (h : TabAt w b t (fun _ => .bool false) N) : TabAt w b t (part f 0) N := by
  refine h.congr fun i hi => ?_
  unfold part
  simp
set_option maxRecDepth 100000 in
set_option maxHeartbeats 2000000 in
theorem rmatch_c (s p : ByteArray) (w : World) (hs : s.size ≤ 1048576) (hp : p.size ≤ 1048576) : Calls Try.prog 68 #[.string s, .string p] w fun e w' => e = .returned (.bool (matchB s p)) ∧ Below w.heap.size w w' := by
  have hll : (signsL p.data.toList).length ≤ 1048576 := by have := signs_len p.data.toList; rw [str_len] at this; omega
  have QE := hide (fun W => rsigns_c p W hp)
  have HSL := hide (str_len s)
  unfold matchB
  generalize signsL p.data.toList = l at *
  go_enter Try.func68, Try.ntmps68
  go_wp2_with fail
  refine (QE.out _).mono ?_
  rintro e w1 ⟨A, c, rfl, hS, hb⟩
  have HB := hide hb
  have HS := hide hS
  have HE := hide (tm_end l s.data.toList)
  generalize hn : l.length = L at *
  have HN := hide hn
  clear hS hb QE hn
  have hSw : IntKind.i64.wrap ((s.size : Int) + 1) = (s.size : Int) + 1 := IntWalk.i64_in _ (by omega)
  go_wp2_with (at_make; refine wpList_make_tab _ rfl (.tmp 14) (.tmp 14) 76 rfl 4 (.bool false) 1 Try.underlying76 bool_info rfl .i64 .i64 _ _ (s.size + 1) rfl rfl (by omega) (by omega) (by omega) (by omega) ?_; intro w2 g hg ht2 hb2 hz2; have hc0 := ht2.cell (i := 0) (by omega); have hf0 := ht2.unfrozen 0; have HT2 := hide ht2; have HB2 := hide (Bel.then HB.out hb2); have HB12 := hide hb2; have HG := hide hg; clear ht2 hb2 hg hz2)
  have hgw : w.heap.size ≤ g := by have := HB.out.size; have := HG.out; omega
  have HI := hide (show TabAt (w2.setCell ⟨g, 0, none⟩ (.bool true)) g 4 (fun i => .bool (tm l s.data.toList 0 i)) (s.size + 1) from (HT2.out.set 0 (.bool true)).congr fun i hi => by
    rw [tm_zero l s.data.toList i (by rw [HSL.out]; omega)]
    by_cases h : i = 0
    · simp [h]
    · simp [h])
  have HB3 := hide (show Below w.heap.size w (w2.setCell ⟨g, 0, none⟩ (.bool true)) from HB2.out.setCell hgw _)
  have HS2 := hide (show SlAt siC 1 (w2.setCell ⟨g, 0, none⟩ (.bool true)) g A L c l by
    have h1 := HS.out
    have h2 := HB12.out
    rw [HG.out] at h1 h2
    exact h1.below (h2.setCell (Nat.le_refl _) _))
  generalize w2.setCell ⟨g, 0, none⟩ (.bool true) = w3 at *
  clear HB12 HT2 hc0 hf0 HB2
  go_wp2_with fail
  have hgz : g ≤ w3.heap.size := Nat.le_of_lt HI.out.lt
  go_loopw [6, 7] (fun v i wr => ∃ j g1 : Nat, j ≤ L ∧ w.heap.size ≤ g1 ∧ g ≤ wr.heap.size ∧ i = .int .i64 j ∧ v = .slice (some ⟨g1, 0, none⟩) (s.size + 1) (s.size + 1) ∧ Hid (TabAt wr g1 4 (fun i => .bool (tm l s.data.toList j i)) (s.size + 1)) ∧ Hid (Below w.heap.size w wr) ∧ Hid (SlAt siC 1 wr g A L c l)) (fun _ i _ => L - (intOf i).toNat)
  case atStart => exact ⟨0, g, Nat.zero_le _, hgw, hgz, rfl, rfl, HI, HB3, HS2⟩
  case round =>
    obtain ⟨j, g1, hj, hg1, hgr, rfl, rfl, HT, HBr, HSr⟩ := hrel
    clear HI HB3 HS2 hgz
    by_cases hlt : j < L
    · have hwj : IntKind.i64.wrap ((j : Int) + 1) = (j : Int) + 1 := IntWalk.i64_in _ (by omega)
      go_wp2_with (at_make; refine wpList_make_tab _ rfl (.tmp 26) (.tmp 26) 76 rfl 4 (.bool false) 1 Try.underlying76 bool_info rfl .i64 .i64 _ _ (s.size + 1) rfl rfl (by omega) (by omega) (by omega) (by omega) ?_; intro w4 g2 hg2 ht4 hb4 hz4; have HT4 := hide (part_none (tm l s.data.toList (j + 1)) ht4); have HT1 := hide (HT.out.kept hb4); have HB4 := hide (Bel.then HBr.out hb4); have HSl4 := hide (HSr.out.below (hb4.mono hgr)); have hg12 : g1 < g2 := (by have := HT.out.lt; omega); have hgg2 : g ≤ g2 := (by omega); have hgz4 : g ≤ w4.heap.size := (by omega); have hwg2 : w.heap.size ≤ g2 := (by omega); clear ht4 hb4 hg2 hz4)
      go_loopw [9] (fun v wq => ∃ n : Nat, n ≤ s.size + 1 ∧ g ≤ wq.heap.size ∧ v = .int .i64 n ∧ Hid (TabAt wq g2 4 (part (tm l s.data.toList (j + 1)) n) (s.size + 1)) ∧ Hid (TabAt wq g1 4 (fun i => .bool (tm l s.data.toList j i)) (s.size + 1)) ∧ Hid (Below w.heap.size w wq) ∧ Hid (SlAt siC 1 wq g A L c l)) (fun v _ => s.size + 1 - (intOf v).toNat)
      case atStart => exact ⟨0, by omega, hgz4, rfl, HT4, HT1, HB4, HSl4⟩
      case round =>
        obtain ⟨n, hn, hgq, rfl, HP, HT', HBq, HSq⟩ := hrel
        clear HT4 HT1 HB4 HSl4 hgz4 HT HBr HSr
        have hwn : IntKind.i64.wrap ((n : Int) + 1) = (n : Int) + 1 := IntWalk.i64_in _ (by omega)
        by_cases hle : n ≤ s.size
        · have hfz := HP.out.unfrozen n
          obtain ⟨v0, hv0⟩ : ∃ v, Hid (wr.cell? ⟨g2, n, none⟩ = some v) := ⟨_, HP.out.cell (i := n) (by omega)⟩
          obtain ⟨b, off, x, rfl, hbl, hx, hc⟩ := HSq.out.at (by omega) hlt
          have hl0 := hc 0 _ rfl
          rw [Nat.add_zero, Nat.mul_one] at hl0
          clear hc
          have hv1 := hv0.out
          rcases (show n = 0 ∨ ∃ m, Hid (n = m + 1) from by cases n with | zero => exact .inl rfl | succ m => exact .inr ⟨m, rfl⟩) with hn0 | ⟨m, hm⟩
          · have hng : ¬ (0 : Int) < (n : Int) := by omega
            have hng2 : ¬ 0 < n := by omega
            have hc1 := HT'.out.cell (i := n) (by omega)
            have HN0 := hide hn0
            clear hn0
            cases x with
            | all =>
              have hz : Hid (tm l s.data.toList (j + 1) n = tm l s.data.toList j n) := by rw [HN0.out]; exact tm_all0 hx
              generalize tm l s.data.toList j n = z at *
              have HP2 := hide (part_set (u := z) HP.out hz.out)
              have HT2 := hide (HT'.out.far (p := ⟨g2, n, none⟩) (show g1 ≠ g2 by omega) (.bool z))
              have HB2 := hide (HBq.out.setCell (p := ⟨g2, n, none⟩) hwg2 (.bool z))
              have HS2 := hide (HSq.out.below ((Below.refl g wr).setCell (p := ⟨g2, n, none⟩) hgg2 (.bool z)))
              have hsg : sgI .all = 257 := rfl
              rw [hsg] at hl0
              clear hx hsg hz
              cases z
              all_goals
                go_wp2_with fail
                go_roundw
                case rel => exact ⟨n + 1, by omega, by simpa using hgq, by go_num, HP2, HT2, HB2, HS2⟩
                case measure => simp [intOf]; omega
            | one =>
              have hz := hide (tm_one0 (s := s.data.toList) hx rfl)
              rw [← HN0.out] at hz
              have HP2 := hide (fun q => (part_skip HP.out hz.out).drew q)
              have HT2 := hide (fun q => HT'.out.drew q)
              have HB2 := hide (fun q => Below.drewN' HBq.out q)
              have HS2 := hide (fun q => HSq.out.below (Below.drewN' (Below.refl g wr) q))
              simp only [sgI] at hl0
              clear hx hz
              go_wp2_with fail
              go_quiet (fail)
              go_wp2_with fail
              go_roundw
              case rel => exact ⟨n + 1, by omega, by simpa using hgq, by go_num, HP2.out _, HT2.out _, HB2.out _, HS2.out _⟩
              case measure => simp [intOf]; omega
            | byte y =>
              have hz := hide (tm_one0 (s := s.data.toList) hx rfl)
              rw [← HN0.out] at hz
              have HP2 := hide (fun q => (part_skip HP.out hz.out).drew q)
              have HT2 := hide (fun q => HT'.out.drew q)
              have HB2 := hide (fun q => Below.drewN' HBq.out q)
              have HS2 := hide (fun q => HSq.out.below (Below.drewN' (Below.refl g wr) q))
              have hsg : ((y.toNat : Int) == 257) = false := by have := y.toNat_lt; rw [beq_eq_false_iff_ne]; omega
              simp only [sgI] at hl0
              clear hx hz
              go_wp2_with fail
              go_quiet (fail)
              go_wp2_with fail
              go_roundw
              case rel => exact ⟨n + 1, by omega, by simpa using hgq, by go_num, HP2.out _, HT2.out _, HB2.out _, HS2.out _⟩
              case measure => simp [intOf]; omega
          · have hmn := hm.out
            have hng : (0 : Int) < (n : Int) := by omega
            have hng2 : 0 < n := by omega
            have hms : m < s.size := by omega
            have hmi : (m : Int) < s.size := by omega
            have hnm : (n : Int) - 1 = (m : Int) := by omega
            have hnw : IntKind.i64.wrap ((n : Int) - 1) = (m : Int) := by rw [hnm]; exact IntWalk.i64_in _ (by omega)
            have hsm : s.data.toList[m]? = some s[m] := str_get hms
            have hc0 := HT'.out.cell (i := m) (by omega)
            cases x with
            | all =>
              have hc1 := HT'.out.cell (i := n) (by omega)
              have hcp := HP.out.cell (i := m) (by omega)
              have hpe : part (tm l s.data.toList (j + 1)) n m = .bool (tm l s.data.toList (j + 1) m) := by unfold part; rw [show decide (m < n) = true by simp; omega]; rfl
              rw [hpe] at hcp
              have hz0 : Hid (tm l s.data.toList (j + 1) n = (tm l s.data.toList j n || tm l s.data.toList (j + 1) m)) := by rw [hmn]; exact tm_all hx (by rw [HSL.out]; exact hms)
              generalize hz1 : tm l s.data.toList j n = z1 at *
              generalize hz2 : tm l s.data.toList (j + 1) m = z2 at *
              clear hz1 hz2 hpe hc0
              obtain ⟨z, hzz⟩ : ∃ z, Hid ((z1 || z2) = z) := ⟨_, rfl⟩
              have hz := hide (hz0.out.trans hzz.out)
              have HP2 := hide (part_set (u := z) HP.out hz.out)
              have HT2 := hide (HT'.out.far (p := ⟨g2, n, none⟩) (show g1 ≠ g2 by omega) (.bool z))
              have HB2 := hide (HBq.out.setCell (p := ⟨g2, n, none⟩) hwg2 (.bool z))
              have HS2 := hide (HSq.out.below ((Below.refl g wr).setCell (p := ⟨g2, n, none⟩) hgg2 (.bool z)))
              have hsg : sgI .all = 257 := rfl
              rw [hsg] at hl0
              clear hx hsg hz hz0 hmn hm hsm
              cases z1 <;> cases z2
              all_goals
                obtain rfl := hzz.out
                go_wp2_with fail
                go_roundw
                case rel => exact ⟨n + 1, by omega, by simpa using hgq, by go_num, HP2, HT2, HB2, HS2⟩
                case measure => simp [intOf]; omega
            | one =>
              have hz : Hid (tm l s.data.toList (j + 1) n = tm l s.data.toList j m) := by rw [hmn]; exact tm_one hx rfl hsm
              generalize tm l s.data.toList j m = z at *
              have HP2 := hide (fun q => part_set (u := z) (HP.out.drew q) hz.out)
              have HT2 := hide (fun q => (HT'.out.drew q).far (p := ⟨g2, n, none⟩) (show g1 ≠ g2 by omega) (.bool z))
              have HB2 := hide (fun q => (Below.drewN' HBq.out q).setCell (p := ⟨g2, n, none⟩) hwg2 (.bool z))
              have HS2 := hide (fun q => HSq.out.below ((Below.drewN' (Below.refl g wr) q).setCell (p := ⟨g2, n, none⟩) hgg2 (.bool z)))
              simp only [sgI] at hl0
              clear hx hz hmn hm hsm
              go_wp2_with fail
              go_quiet (fail)
              go_wp2_with fail
              go_roundw
              case rel => exact ⟨n + 1, by omega, by simpa using hgq, by go_num, HP2.out _, HT2.out _, HB2.out _, HS2.out _⟩
              case measure => simp [intOf]; omega
            | byte y =>
              have hsg : ((y.toNat : Int) == 257) = false := by have := y.toNat_lt; rw [beq_eq_false_iff_ne]; omega
              have hsg2 : ((y.toNat : Int) == 256) = false := by have := y.toNat_lt; rw [beq_eq_false_iff_ne]; omega
              have hcl := s[m].toNat_lt
              have hwc : IntKind.i64.wrap (s[m].toNat : Int) = s[m].toNat := IntWalk.i64_in _ (by omega)
              by_cases hyc : y = s[m]
              · have hq : ((y.toNat : Int) == (s[m].toNat : Int)) = true := by rw [hyc]; simp
                have hz : Hid (tm l s.data.toList (j + 1) n = tm l s.data.toList j m) := by
                  have h := tm_one (s := s.data.toList) hx rfl hsm
                  rw [show (Sg.byte y).fits s[m] = true by rw [hyc]; simp [Sg.fits], Bool.true_and] at h
                  rw [hmn]; exact h
                generalize tm l s.data.toList j m = z at *
                have HP2 := hide (fun q => part_set (u := z) (HP.out.drew q) hz.out)
                have HT2 := hide (fun q => (HT'.out.drew q).far (p := ⟨g2, n, none⟩) (show g1 ≠ g2 by omega) (.bool z))
                have HB2 := hide (fun q => (Below.drewN' HBq.out q).setCell (p := ⟨g2, n, none⟩) hwg2 (.bool z))
                have HS2 := hide (fun q => HSq.out.below ((Below.drewN' (Below.refl g wr) q).setCell (p := ⟨g2, n, none⟩) hgg2 (.bool z)))
                simp only [sgI] at hl0
                clear hx hz hmn hm hsm hyc
                go_wp2_with fail
                go_quiet (fail)
                go_wp2_with fail
                go_roundw
                case rel => exact ⟨n + 1, by omega, by simpa using hgq, by go_num, HP2.out _, HT2.out _, HB2.out _, HS2.out _⟩
                case measure => simp [intOf]; omega
              · have hq : ((y.toNat : Int) == (s[m].toNat : Int)) = false := by
                  rw [beq_eq_false_iff_ne]
                  exact fun e => hyc (UInt8.toNat_inj.1 (by omega))
                have hz : Hid (tm l s.data.toList (j + 1) n = false) := by
                  have h := tm_one (s := s.data.toList) hx rfl hsm
                  rw [show (Sg.byte y).fits s[m] = false by simp [Sg.fits, hyc], Bool.false_and] at h
                  rw [hmn]; exact h
                have HP2 := hide (fun q => (part_skip HP.out hz.out).drew q)
                have HT2 := hide (fun q => HT'.out.drew q)
                have HB2 := hide (fun q => Below.drewN' HBq.out q)
                have HS2 := hide (fun q => HSq.out.below (Below.drewN' (Below.refl g wr) q))
                simp only [sgI] at hl0
                clear hx hz hmn hm hsm hyc
                go_wp2_with fail
                go_quiet (fail)
                go_wp2_with fail
                go_roundw
                case rel => exact ⟨n + 1, by omega, by simpa using hgq, by go_num, HP2.out _, HT2.out _, HB2.out _, HS2.out _⟩
                case measure => simp [intOf]; omega
        · obtain rfl : n = s.size + 1 := by omega
          have HF := hide (part_full HP.out)
          have hno : ¬ ((s.size : Int) + 1 ≤ s.size) := by omega
          clear HP
          go_wp2_with fail
          go_roundw
          case rel => exact ⟨j + 1, g2, by omega, by omega, by omega, by go_num, rfl, HF, HBq, HSq⟩
          case measure => simp [intOf]; omega
    · obtain rfl : j = L := by omega
      have hcl := HT.out.cell (i := s.size) (by omega)
      have he := HE.out
      rw [HSL.out] at he
      rw [he] at hcl
      clear he
      go_wp2_with fail
      go_ret
      exact ⟨rfl, HBr.out⟩
end Go.Proofs.Ytlkeghfdpbfhbaa
