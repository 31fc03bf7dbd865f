/- Contracts of like.Exact, Prefix and Quote. -/
import Derived.Test.YtcojhpfnehfppaaLkG
namespace Go.Proofs.Ytcojhpfnehfppaa
set_option linter.unusedVariables false
open Go.ChangeShapes Go.WideShapes Go.ChangeAt Go.RowKit

/-- The only text that a pattern matches, and whether there is one. -/
def exactP (p : ByteArray) : ByteArray × Bool := if (plainL (signsL p.data.toList)).length < (signsL p.data.toList).length then (.empty, false) else (strL (plainL (signsL p.data.toList)), true)
def prefixP (p : ByteArray) : ByteArray := strL (plainL (signsL p.data.toList))
def quoteP (s : ByteArray) : ByteArray := strL (quoteL s.data.toList)
def GivesX (w : World) (x : ByteArray × Bool) (e : Ending) (w' : World) : Prop := e = .returned (.tuple #[.string x.1, .bool x.2]) ∧ Below w.heap.size w w'
theorem exact_c (p : ByteArray) (w : World) (hp : p.size ≤ 1048576) : Calls Try.prog 8 #[.string p] w (GivesX w (exactP p)) := by
  have hll : (signsL p.data.toList).length ≤ 1048576 := by have := signs_len p.data.toList; rw [str_len] at this; omega
  have QE := hide (fun W => elements_c p W hp)
  have hz := strL_size (plainL (signsL p.data.toList))
  unfold exactP
  generalize signsL p.data.toList = l at *
  have QP := hide (fun A c W h => plain_c A l.length c l W h hll)
  have hy : (plainL l).length = (strL (plainL l)).size := hz.symm
  rw [hy]
  generalize strL (plainL l) = t at *
  have hpl := plain_len l
  have ht : t.size ≤ 1048576 := by omega
  clear hz hy hpl
  generalize hn : l.length = n at *
  by_cases hlt : t.size < n
  · rw [if_pos hlt]
    go_enter Try.func8, Try.ntmps8
    go_wp2_with fail
    refine (QE.out _).mono ?_
    rintro e w1 ⟨A, c, rfl, hS, hb⟩
    rw [hn] at hS ⊢
    have HQ := hide (QP.out A c w1 hS)
    have HB := hide hb
    clear hS hb QP QE hn
    go_wp2_with fail
    refine HQ.out.mono ?_
    rintro e w2 ⟨rfl, hb2⟩
    have HB2 := hide (Bel.then HB.out hb2)
    clear hb2 HQ
    go_wp2_with fail
    go_ret2
    exact ⟨rfl, HB2.out⟩
  · rw [if_neg hlt]
    go_enter Try.func8, Try.ntmps8
    go_wp2_with fail
    refine (QE.out _).mono ?_
    rintro e w1 ⟨A, c, rfl, hS, hb⟩
    rw [hn] at hS ⊢
    have HQ := hide (QP.out A c w1 hS)
    have HB := hide hb
    clear hS hb QP QE hn
    go_wp2_with fail
    refine HQ.out.mono ?_
    rintro e w2 ⟨rfl, hb2⟩
    have HB2 := hide (Bel.then HB.out hb2)
    clear hb2 HQ
    go_wp2_with fail
    go_ret2
    exact ⟨rfl, HB2.out⟩
theorem prefix_c (p : ByteArray) (w : World) (hp : p.size ≤ 1048576) : Calls Try.prog 12 #[.string p] w (GivesS w (prefixP p)) := by
  have hll : (signsL p.data.toList).length ≤ 1048576 := by have := signs_len p.data.toList; rw [str_len] at this; omega
  have QE := hide (fun W => elements_c p W hp)
  unfold prefixP
  generalize signsL p.data.toList = l at *
  have QP := hide (fun A c W h => plain_c A l.length c l W h hll)
  generalize strL (plainL l) = t at *
  go_enter Try.func12, Try.ntmps12
  go_wp2_with fail
  refine (QE.out _).mono ?_
  rintro e w1 ⟨A, c, rfl, hS, hb⟩
  have HQ := hide (QP.out A c w1 hS)
  have HB := hide hb
  clear hS hb QP QE
  go_wp2_with fail
  refine HQ.out.mono ?_
  rintro e w2 ⟨rfl, hb2⟩
  have HB2 := hide (Bel.then HB.out hb2)
  clear hb2 HQ
  go_wp2_with fail
  go_ret
  exact ⟨rfl, HB2.out⟩
theorem quote_snoc {s : List UInt8} {k : Nat} {c : UInt8} (h : s[k]? = some c) : quoteL (s.take (k + 1)) = quoteL (s.take k) ++ (if specialB c then [92, c] else [c]) := by
  rw [take_at h]
  simp [quoteL]
theorem quote_len : ∀ s : List UInt8, (quoteL s).length ≤ 2 * s.length
  | [] => Nat.le_refl _
  | c :: s => by
    have := quote_len s
    have e : quoteL (c :: s) = (if specialB c then [92, c] else [c]) ++ quoteL s := rfl
    rw [e, List.length_append, List.length_cons]
    split <;> simp <;> omega
set_option maxRecDepth 100000 in
set_option maxHeartbeats 1000000 in
theorem quote_c (s : ByteArray) (w : World) (hs : s.size ≤ 1048576) : Calls Try.prog 14 #[.string s] w (GivesS w (quoteP s)) := by
  have H0 := hide (bld_new w)
  obtain ⟨g, hg⟩ : ∃ g, Hid (w.heap.size = g) := ⟨_, rfl⟩
  have HB0 := hide ((Below.refl w.heap.size w).alloc (Nat.le_refl _) (.cells #[.pointer none, .slice none 0 0] 43))
  have HSL := hide (str_len s)
  rw [hg.out] at H0 HB0
  go_enter Try.func14, Try.ntmps14
  go_wp2_with fail
  simp only [hg.out]
  go_wp2_with fail
  go_loopw [4] (fun i wr => ∃ k : Nat, k ≤ s.size ∧ i = .int .i64 k ∧ Hid (BldAt wr g g (quoteL (s.data.toList.take k))) ∧ Hid (Below g w wr)) (fun i _ => s.size - (intOf i).toNat)
  case atStart => exact ⟨0, Nat.zero_le _, rfl, H0, HB0⟩
  case round =>
    obtain ⟨k, hk, rfl, HK, HB⟩ := hrel
    clear H0 HB0
    have hsize : g ≤ wr.heap.size := by have := HB.out.size; have := hg.out; omega
    have hw1 : IntKind.i64.wrap ((k : Int) + 1) = (k : Int) + 1 := IntWalk.i64_in _ (by omega)
    by_cases hlt : k < s.size
    · have hql : (quoteL (s.data.toList.take k)).length ≤ 2097152 := by
        have := quote_len (s.data.toList.take k)
        rw [List.length_take] at this
        omega
      have HT := hide (quote_snoc (str_get hlt))
      have QS := hide (fun W => special_c s[k] W)
      by_cases hsp : specialB s[k] = true
      · rw [if_pos hsp] at HT
        rw [hsp] at QS
        have Q := hide (bld_byteZ g g _ 92 92 wr rfl HK.out (by omega) hsize)
        clear hsp
        go_wp2_with fail
        refine (QS.out _).mono ?_
        rintro e w2 ⟨rfl, rfl⟩
        clear QS
        go_wp2_with fail
        refine Q.out.mono ?_
        rintro e w3 ⟨rfl, h3, hb3⟩
        have HB3 := hide (HB.out.trans hb3)
        have Q2 := hide (bld_byteZ g g _ s[k] _ w3 rfl h3 (by rw [List.length_append]; simp; omega) (Nat.le_trans hsize hb3.size))
        rw [List.append_assoc] at Q2
        clear h3 hb3 Q
        go_wp2_with fail
        refine Q2.out.mono ?_
        rintro e w4 ⟨rfl, h4, hb4⟩
        have HB4 := hide (HB3.out.trans hb4)
        have H4 := hide (show BldAt w4 g g (quoteL (s.data.toList.take (k + 1))) by rw [HT.out]; exact h4)
        clear h4 hb4 Q2
        go_wp2_with fail
        go_roundw
        case rel => exact ⟨k + 1, by omega, by go_num, H4, HB4⟩
        case measure => simp [intOf]; omega
      · rw [if_neg hsp] at HT
        have hsp : specialB s[k] = false := by simpa using hsp
        rw [hsp] at QS
        have Q2 := hide (bld_byteZ g g _ s[k] _ wr rfl HK.out (by omega) hsize)
        clear hsp
        go_wp2_with fail
        refine (QS.out _).mono ?_
        rintro e w2 ⟨rfl, rfl⟩
        clear QS
        go_wp2_with fail
        refine Q2.out.mono ?_
        rintro e w4 ⟨rfl, h4, hb4⟩
        have HB4 := hide (HB.out.trans hb4)
        have H4 := hide (show BldAt w4 g g (quoteL (s.data.toList.take (k + 1))) by rw [HT.out]; exact h4)
        clear h4 hb4 Q2
        go_wp2_with fail
        go_roundw
        case rel => exact ⟨k + 1, by omega, by go_num, H4, HB4⟩
        case measure => simp [intOf]; omega
    · obtain rfl : k = s.size := by omega
      have e : s.data.toList.take s.size = s.data.toList := List.take_of_length_le (by rw [HSL.out]; omega)
      rw [e] at HK
      have Q : Hid (Calls Try.prog 25 #[.pointer (some ⟨g, 0, none⟩)] wr fun e w' => e = .returned (.string (quoteP s)) ∧ BldAt w' g g (quoteL s.data.toList) ∧ Below g wr w' ∧ Lib.OthersKept 5 (some g) wr w') := bld_get g g _ wr HK.out hsize
      generalize quoteP s = t at *
      clear e
      go_wp2_with fail
      refine Q.out.mono ?_
      rintro e w4 ⟨rfl, _, hb4, _⟩
      have HB4 := hide (HB.out.trans hb4)
      clear hb4 Q
      go_wp2_with fail
      go_ret
      exact ⟨rfl, by rw [hg.out]; exact HB4.out⟩
end Go.Proofs.Ytcojhpfnehfppaa
