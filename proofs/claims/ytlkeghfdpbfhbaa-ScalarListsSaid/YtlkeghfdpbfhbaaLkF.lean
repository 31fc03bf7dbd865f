/- The contract of like.Match: the greedy search. -/
import Derived.Test.YtlkeghfdpbfhbaaLkE
namespace Go.Proofs.Ytlkeghfdpbfhbaa
set_option linter.unusedVariables false
open Go.ChangeShapes Go.WideShapes Go.ChangeAt Go.RowKit

theorem signs_len : ∀ p : List UInt8, (signsL p).length ≤ p.length
  | [] => Nat.le_refl _
  | [_] => Nat.le_refl _
  | c :: d :: r => by
    have h1 := signs_len r
    have h2 := signs_len (d :: r)
    rw [signsL]
    split
    · simp only [List.length_cons] at *; omega
    · simp only [List.length_cons] at *; omega
def matchB (s p : ByteArray) : Bool := matchS (signsL p.data.toList) s.data.toList
/-- How long the search may still go on. -/
def mu (S L f a i : Nat) : Nat := (S - f + 1) * (S + L + 2) - (a - f) - i
theorem mu_big (S L f : Nat) : S + L + 2 ≤ (S - f + 1) * (S + L + 2) := Nat.le_mul_of_pos_left _ (by omega)
theorem mu_step {S L f g : Nat} (h : f ≤ g) (h2 : g ≤ S) : (S - f + 1) * (S + L + 2) = (S - g + 1) * (S + L + 2) + (g - f) * (S + L + 2) := by
  rw [← Nat.add_mul]
  congr 1
  omega
theorem mu_all {S L f a i : Nat} (h1 : f ≤ a) (h2 : a ≤ S) (h3 : i < L) : mu S L a a (i + 1) < mu S L f a i := by
  have hb := mu_big S L a
  have hs := mu_step (L := L) h1 h2
  have hm : (a - f) ≤ (a - f) * (S + L + 2) := Nat.le_mul_of_pos_right _ (by omega)
  unfold mu
  generalize (S - a + 1) * (S + L + 2) = X at *
  generalize (S - f + 1) * (S + L + 2) = Y at *
  generalize (a - f) * (S + L + 2) = Z at *
  omega
theorem mu_fits {S L f a i : Nat} (h1 : f ≤ a) (h2 : a < S) (h3 : i < L) : mu S L f (a + 1) (i + 1) < mu S L f a i := by
  have hb := mu_big S L f
  unfold mu
  generalize (S - f + 1) * (S + L + 2) = Y at *
  omega
theorem mu_shift {S L f a i j : Nat} (h1 : f ≤ a) (h2 : a < S) (h3 : i ≤ L) : mu S L (f + 1) (f + 1) j < mu S L f a i := by
  have hb := mu_big S L (f + 1)
  have hs := mu_step (L := L) (show f ≤ f + 1 by omega) (by omega : f + 1 ≤ S)
  rw [show f + 1 - f = 1 by omega, Nat.one_mul] at hs
  unfold mu
  generalize (S - (f + 1) + 1) * (S + L + 2) = X at *
  generalize (S - f + 1) * (S + L + 2) = Y at *
  omega
/-- The search's state. -/
def StAt (l : List Sg) (s : List UInt8) (a i : Nat) (la : Int) (f : Nat) : Prop := (la = -1 ∧ FreeAt l s a i) ∨ ∃ L : Nat, la = L ∧ HeldAt l s a i L f
theorem st_all {l : List Sg} {s : List UInt8} {a i f : Nat} {la : Int} (h : StAt l s a i la f) (hg : l[i]? = some .all) : StAt l s a (i + 1) i a := by
  rcases h with ⟨_, h⟩ | ⟨L, _, h⟩
  · exact .inr ⟨i, rfl, free_all h hg⟩
  · exact .inr ⟨i, rfl, held_all h hg⟩
theorem st_fits {l : List Sg} {s : List UInt8} {a i f : Nat} {la : Int} {g : Sg} {c : UInt8} (h : StAt l s a i la f) (hg : l[i]? = some g) (hc : s[a]? = some c) (h1 : g.isAll = false) (h2 : g.fits c = true) : StAt l s (a + 1) (i + 1) la f := by
  rcases h with ⟨e, h⟩ | ⟨L, e, h⟩
  · exact .inl ⟨e, free_fits h hg hc h1 h2⟩
  · exact .inr ⟨L, e, held_fits h hg hc h1 h2⟩
theorem st_end {l : List Sg} {s : List UInt8} {i f : Nat} {la : Int} (h : StAt l s s.length i la f) : matchS l s = (l.drop i).all Sg.isAll := by
  rcases h with ⟨_, h⟩ | ⟨L, _, h⟩
  · exact free_end h
  · exact held_end h
theorem fits_false {l : List Sg} {i : Nat} {c : UInt8} (h : fitsAt l i c = false) (hn : l[i]? ≠ some .all) : ∀ g, l[i]? = some g → g.isAll = false ∧ g.fits c = false := by
  intro g hg
  refine ⟨?_, ?_⟩
  · cases g with
    | all => exact absurd hg hn
    | _ => rfl
  · unfold fitsAt at h
    rw [hg] at h
    exact h
theorem fits_true {l : List Sg} {i : Nat} {c : UInt8} (h : fitsAt l i c = true) : ∃ g, l[i]? = some g ∧ g.isAll = false ∧ g.fits c = true := by
  unfold fitsAt at h
  cases hg : l[i]? with
  | none => rw [hg] at h; cases h
  | some g =>
    rw [hg] at h
    refine ⟨g, rfl, ?_, h⟩
    cases g with
    | all => cases h
    | _ => rfl
theorem el_kind {l : List Sg} {i : Nat} {g : Sg} (hg : l[i]? = some g) : ∃ u, (elC g)[0]? = some (.int .i64 u) ∧ (u == 2) = g.isAll := by
  cases g with
  | byte b => exact ⟨0, rfl, rfl⟩
  | one => exact ⟨1, rfl, rfl⟩
  | all => exact ⟨2, rfl, rfl⟩
set_option maxRecDepth 100000 in
set_option maxHeartbeats 1000000 in
theorem match_c (s p : ByteArray) (w : World) (hs : s.size ≤ 1048576) (hp : p.size ≤ 1048576) : Calls Try.prog 70 #[.string s, .string p] w fun e w' => e = .returned (.bool (matchB s p)) ∧ Below w.heap.size w w' := by
  have hll : (signsL p.data.toList).length ≤ 1048576 := by have := signs_len p.data.toList; rw [str_len] at this; omega
  have QE := hide (fun W => elements_c p W hp)
  have hsl := str_len s
  unfold matchB
  generalize signsL p.data.toList = l at *
  go_enter Try.func70, Try.ntmps70
  go_wp2_with fail
  refine (QE.out _).mono ?_
  rintro e w1 ⟨A, c, rfl, hS, hb⟩
  have hlen := hide (hS.len)
  have HB := hide hb
  have HS := hide hS
  have HSL := hide hsl
  have QF := hide (fun i x => fits_c A l.length c l i x w1 _ hS hll)
  generalize hn : l.length = n at *
  have HN := hide hn
  clear hS hb QE hsl hn
  go_wp2_with fail
  go_loop [6, 7, 8, 9] (fun at' i la fi => ∃ a j f : Nat, ∃ z : Int, a ≤ s.size ∧ j ≤ n ∧ f ≤ a ∧ -1 ≤ z ∧ z < n ∧ at' = .int .i64 a ∧ i = .int .i64 j ∧ la = .int .i64 z ∧ fi = .int .i64 f ∧ Hid (StAt l s.data.toList a j z f)) (fun at' i _ fi => mu s.size n (intOf fi).toNat (intOf at').toNat (intOf i).toNat)
  case atStart => exact ⟨0, 0, 0, -1, by omega, by omega, by omega, by omega, by omega, rfl, rfl, rfl, rfl, .inl ⟨rfl, rfl⟩⟩
  case round =>
    obtain ⟨a, j, f, z, ha, hj, hf, hz, hzn, rfl, rfl, rfl, rfl, HSt⟩ := hrel
    by_cases hlt : a < s.size
    · have hca := hide (str_get hlt)
      have hw1 : IntKind.i64.wrap ((j : Int) + 1) = (j : Int) + 1 := IntWalk.i64_in _ (by omega)
      have hw2 : IntKind.i64.wrap ((a : Int) + 1) = (a : Int) + 1 := IntWalk.i64_in _ (by omega)
      have hw3 : IntKind.i64.wrap ((f : Int) + 1) = (f : Int) + 1 := IntWalk.i64_in _ (by omega)
      have hw4 : IntKind.i64.wrap (z + 1) = z + 1 := IntWalk.i64_in _ (by omega)
      by_cases hj2 : j < n
      · obtain ⟨b, off, g, rfl, _, hg, hc⟩ := HS.out.at (by omega) hj2
        obtain ⟨u, hu, hua⟩ := el_kind hg
        have h0 := hc 0 _ hu
        rw [Nat.add_zero] at h0
        clear hc hu
        by_cases hgA : g.isAll = true
        · have hu2 : (u == 2) = true := by rw [hua, hgA]
          have hgl : l[j]? = some .all := by rw [hg]; cases g <;> first | rfl | cases hgA
          have H2 := hide (st_all HSt.out hgl)
          clear hua hgA hg hgl HSt QF
          go_wp2_with fail
          go_round
          case rel => exact ⟨a, j + 1, a, j, ha, by omega, by omega, by omega, by omega, rfl, by go_num, rfl, rfl, H2⟩
          case measure => simpa [intOf] using mu_all hf ha hj2
        · have hu2 : (u == 2) = false := by rw [hua]; simpa using hgA
          have hnA : l[j]? ≠ some .all := by
            rw [hg]
            intro e
            injection e with e
            rw [e] at hgA
            exact hgA rfl
          clear hua
          by_cases hft : fitsAt l j s[a] = true
          · obtain ⟨g2, hg2, h1, h2⟩ := fits_true hft
            have H2 := hide (st_fits HSt.out hg2 hca.out h1 h2)
            have QG := hide (QF.out j s[a])
            rw [hft] at QG
            have hms := hide (mu_fits (S := s.size) (L := n) hf hlt hj2)
            clear hg2 h1 h2 hft hnA hg hgA HSt QF
            go_wp2_with fail
            refine QG.out.mono ?_
            rintro e w2 ⟨rfl, rfl⟩
            clear QG
            go_wp2_with fail
            go_round
            case rel => exact ⟨a + 1, j + 1, f, z, by omega, by omega, by omega, by omega, by omega, by go_num, by go_num, rfl, rfl, H2⟩
            case measure => simpa [intOf] using hms.out
          · have hft : fitsAt l j s[a] = false := by simpa using hft
            clear hg hgA
            rcases HSt.out with ⟨rfl, hfr⟩ | ⟨Lz, rfl, hhe⟩
            · have hno := free_not hfr hca.out (fits_false hft hnA)
              have hno2 := hide (show Ending.returned (.bool false) = .returned (.bool (matchS l s.data.toList)) by rw [hno])
              have QG := hide (QF.out j s[a])
              rw [hft] at QG
              clear hfr hno hft hnA HSt QF
              go_wp2_with fail
              refine QG.out.mono ?_
              rintro e w2 ⟨rfl, rfl⟩
              clear QG
              go_wp2_with fail
              go_ret
              exact ⟨hno2.out, HB.out⟩
            · have H2 := hide (show StAt l s.data.toList (f + 1) (Lz + 1) Lz (f + 1) from .inr ⟨Lz, rfl, held_shift hhe hca.out (fits_false hft hnA)⟩)
              have QG := hide (QF.out j s[a])
              rw [hft] at QG
              have hms := hide (mu_shift (S := s.size) (L := n) (j := Lz + 1) hf hlt hj)
              clear hhe hft hnA HSt QF
              go_wp2_with fail
              refine QG.out.mono ?_
              rintro e w2 ⟨rfl, rfl⟩
              clear QG
              go_wp2_with fail
              go_round
              case rel => exact ⟨f + 1, Lz + 1, f + 1, Lz, by omega, by omega, by omega, by omega, by omega, by go_num, by go_num, rfl, by go_num, H2⟩
              case measure => simpa [intOf] using hms.out
      · have hnA : l[j]? ≠ some .all := by
          rw [List.getElem?_eq_none (by rw [HN.out]; omega)]
          intro e
          cases e
        have hft : fitsAt l j s[a] = false := by
          unfold fitsAt
          rw [List.getElem?_eq_none (by rw [HN.out]; omega)]
        rcases HSt.out with ⟨rfl, hfr⟩ | ⟨Lz, rfl, hhe⟩
        · have hno := free_not hfr hca.out (fits_false hft hnA)
          have hno2 := hide (show Ending.returned (.bool false) = .returned (.bool (matchS l s.data.toList)) by rw [hno])
          have QG := hide (QF.out j s[a])
          rw [hft] at QG
          clear hfr hno hft hnA HSt QF
          go_wp2_with fail
          refine QG.out.mono ?_
          rintro e w2 ⟨rfl, rfl⟩
          clear QG
          go_wp2_with fail
          go_ret
          exact ⟨hno2.out, HB.out⟩
        · have H2 := hide (show StAt l s.data.toList (f + 1) (Lz + 1) Lz (f + 1) from .inr ⟨Lz, rfl, held_shift hhe hca.out (fits_false hft hnA)⟩)
          have QG := hide (QF.out j s[a])
          rw [hft] at QG
          have hms := hide (mu_shift (S := s.size) (L := n) (j := Lz + 1) hf hlt hj)
          clear hhe hft hnA HSt QF
          go_wp2_with fail
          refine QG.out.mono ?_
          rintro e w2 ⟨rfl, rfl⟩
          clear QG
          go_wp2_with fail
          go_round
          case rel => exact ⟨f + 1, Lz + 1, f + 1, Lz, by omega, by omega, by omega, by omega, by omega, by go_num, by go_num, rfl, by go_num, H2⟩
          case measure => simpa [intOf] using hms.out
    · obtain rfl : a = s.size := by omega
      have hmm := st_end (by have := HSt.out; rwa [← HSL.out] at this)
      have HM := hide hmm
      clear hmm HSt QF
      go_wp2_with fail
      go_loop [7] (fun i => ∃ j : Nat, j ≤ n ∧ i = .int .i64 j ∧ Hid (matchS l s.data.toList = (l.drop j).all Sg.isAll)) (fun i => n - (intOf i).toNat)
      case atStart => exact ⟨j, hj, rfl, HM⟩
      case round =>
        obtain ⟨k, hk, rfl, HK⟩ := hrel
        clear HM
        by_cases hk2 : k < n
        · obtain ⟨b, off, g, rfl, _, hg, hc⟩ := HS.out.at (by omega) hk2
          obtain ⟨u, hu, hua⟩ := el_kind hg
          have h0 := hc 0 _ hu
          rw [Nat.add_zero] at h0
          have hkk := HK.out
          rw [drop_at hg, List.all_cons] at hkk
          have hw1 : IntKind.i64.wrap ((k : Int) + 1) = (k : Int) + 1 := IntWalk.i64_in _ (by omega)
          clear hc hu HK
          by_cases hgA : g.isAll = true
          · have hu2 : (u == 2) = true := by rw [hua, hgA]
            rw [hgA, Bool.true_and] at hkk
            have HK2 := hide hkk
            clear hua hgA hg hkk
            go_wp2_with fail
            go_round
            case rel => exact ⟨k + 1, by omega, by go_num, HK2⟩
            case measure => simp [intOf]; omega
          · have hu2 : (u == 2) = false := by rw [hua]; simpa using hgA
            have hkf : matchS l s.data.toList = false := by rw [hkk]; simp [hgA]
            have HK2 := hide hkf
            clear hua hgA hg hkk hkf
            have hne : ((k : Int) == (n : Int)) = false := by rw [beq_eq_false_iff_ne]; omega
            go_wp2_with fail
            go_ret
            exact ⟨by rw [HK2.out]; first | (simp; done) | (simp; omega), HB.out⟩
        · obtain rfl : k = n := by omega
          have hkf : matchS l s.data.toList = true := by rw [HK.out, List.drop_of_length_le (by rw [HN.out]; omega)]; rfl
          have HK2 := hide hkf
          clear HK hkf
          go_wp2_with fail
          go_ret
          exact ⟨by rw [HK2.out]; first | rfl | simp, HB.out⟩
end Go.Proofs.Ytlkeghfdpbfhbaa
