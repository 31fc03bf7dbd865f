/- The contract of lex.hasForm. -/
import Derived.Test.YtcmhnaanfkpheaaDoorLxI
import Derived.Laws.RangeAny
import Derived.Lib.OthersKept
namespace Go.Proofs.YtcmhnaanfkpheaaDoor
set_option linter.unusedVariables false
open Go.ChangeShapes Go.WideShapes Go.ChangeAt Go.RowKit

/-- May a byte stand at a place of a name? -/
def okF (j : Nat) (c : UInt8) : Bool := lowB c || (j != 0 && digB c)
theorem form_iff (l : List UInt8) : formB l = true ↔ l ≠ [] ∧ ∀ j c, l[j]? = some c → okF j c = true := by
  cases l with
  | nil => exact ⟨fun h => absurd h (by decide), fun h => absurd rfl h.1⟩
  | cons d t =>
    unfold formB
    rw [Bool.and_eq_true, List.all_eq_true]
    constructor
    · rintro ⟨h1, h2⟩
      refine ⟨by simp, fun j c hc => ?_⟩
      unfold okF
      cases j with
      | zero => injection hc with hc; subst hc; rw [h1]; rfl
      | succ j =>
        have h := h2 c (List.mem_of_getElem? (by simpa using hc))
        rcases Bool.or_eq_true _ _ ▸ h with h | h
        · rw [h]; rfl
        · rw [h]; simp
    · rintro ⟨_, h⟩
      refine ⟨?_, fun x hx => ?_⟩
      · have := h 0 d rfl
        unfold okF at this
        simpa using this
      · obtain ⟨j, hj⟩ := List.getElem?_of_mem hx
        have := h (j + 1) x (by simpa using hj)
        unfold okF at this
        simpa using this
theorem form_bad {l : List UInt8} {j : Nat} {c : UInt8} (h : l[j]? = some c) (hc : okF j c = false) : formB l = false := by
  cases hr : formB l with
  | false => rfl
  | true => rw [((form_iff l).1 hr).2 j c h] at hc; cases hc
theorem high_low {z : Int} (h : 128 ≤ z) : lowI z = false ∧ digI z = false := by
  unfold lowI digI
  constructor
  · have h1 : decide (z ≤ 122) = false := decide_eq_false (by omega)
    have h2 : (z == 95) = false := by rw [beq_eq_false_iff_ne]; omega
    rw [h1, h2]; simp
  · rw [decide_eq_false (show ¬ z ≤ 57 by omega)]; simp
theorem high_byte {c : UInt8} (h : 128 ≤ c.toNat) : lowB c = false ∧ digB c = false := by
  have := high_low (z := (c.toNat : Int)) (by omega)
  rw [low_byte, dig_byte] at this
  exact this
theorem rune_at {s : ByteArray} {pos : Nat} (h : pos < s.size) : ∃ r wd : Nat, Utf8.decode s pos = (r, wd) ∧ lowI r = lowB s[pos] ∧ digI r = digB s[pos] ∧ (lowB s[pos] = true ∨ digB s[pos] = true → wd = 1) := by
  refine ⟨(Utf8.decode s pos).1, (Utf8.decode s pos).2, rfl, ?_⟩
  by_cases ha : (s[pos]).toNat < 128
  · rw [decode_ascii s pos h ha]
    exact ⟨low_byte _, dig_byte _, fun _ => rfl⟩
  · have hd := decode_high s pos h (by omega)
    have h1 := high_low (z := ((Utf8.decode s pos).1 : Int)) (by omega)
    have h2 := high_byte (c := s[pos]) (by omega)
    exact ⟨by rw [h1.1, h2.1], by rw [h1.2, h2.2], fun h => by rw [h2.1, h2.2] at h; simp at h⟩
theorem iterPos_of {w : World} {k : Nat} {s : ByteArray} {p : Nat} (h : w.heap[k]? = some (.stringIter s p)) : w.iterPos k = p := by simp [World.iterPos, h]
theorem str_at {s : ByteArray} {k : Nat} (h : k < s.size) : s.data.toList[k]? = some s[k] := by
  have h2 : (s.data.toList.drop k)[0]? = some s[k] := by rw [drop_str h]; rfl
  rw [List.getElem?_drop, Nat.add_zero] at h2
  exact h2
theorem str_none (s : ByteArray) (h : s.size = 0) : s = ⟨#[]⟩ := by
  apply ByteArray.ext
  apply Array.ext'
  have := str_len s
  show s.data.toList = []
  exact List.eq_nil_of_length_eq_zero (by omega)
set_option maxRecDepth 100000 in
set_option maxHeartbeats 4000000 in
theorem form_c (s : ByteArray) (w : World) (hm : s.size ≤ 1048576) : Calls Tryd.prog 31 #[.string s] w fun e w' => e = .returned (.bool (formB s.data.toList)) ∧ Below w.heap.size w w' := by
  have hl := str_len s
  obtain ⟨q, hq⟩ : ∃ q, formB s.data.toList = q := ⟨_, rfl⟩
  rw [hq]
  have HQ := hide hq
  clear hq
  go_enter Tryd.func31, Tryd.ntmps31
  go_wp2
  go_loopw [3] (fun _ wr => ∃ pos : Nat, wr.heap[w.heap.size]? = some (.stringIter s pos) ∧ pos ≤ s.size ∧ Hid (∀ j c, j < pos → s.data.toList[j]? = some c → okF j c = true) ∧ Below w.heap.size w wr) (fun _ wr => s.size - wr.iterPos w.heap.size)
  case atStart => exact ⟨0, World.iter_heap w s 0, Nat.zero_le _, (by intro j c hj; omega), (Below.refl _ _).alloc (Nat.le_refl _) _⟩
  case round =>
    obtain ⟨pos, hit, hps, HN, hbw⟩ := hrel
    have hpos0 := iterPos_of hit
    by_cases hp : pos < s.size
    · have hnx : ∀ ty, (Instr.next (.pointer (some ⟨w.heap.size, 0, none⟩)) true ty).run Tryd.prog wr = _ := fun ty => Lib.run_next_any_at wr w.heap.size s pos ty hit hp
      obtain ⟨r, wd, hrw, k1, k2, k3⟩ := rune_at hp
      rw [hrw] at hnx
      simp only at hnx
      have hit2 := Lib.iterAt_heap wr w.heap.size s pos (pos + wd) hit
      have hbw2 := Lib.below_iterAt hbw (k := w.heap.size) (Nat.le_refl _) s (pos + wd)
      obtain ⟨W1, hW1⟩ : ∃ W1, W1 = wr.iterAt w.heap.size s (pos + wd) := ⟨_, rfl⟩
      rw [← hW1] at hnx hit2 hbw2
      have hg := str_at hp
      generalize hc : s[pos] = c at *
      have Q1 := hide (fun W => letter_c r W)
      have Q3 := hide (fun W => digit_c r W)
      rw [k1] at Q1
      rw [k2] at Q3
      have hnext : ∀ (_ : okF pos c = true) (_ : wd = 1), Hid (∀ j d, j < pos + wd → s.data.toList[j]? = some d → okF j d = true) := fun ho hw j d hj hd => by
        by_cases e : j = pos
        · subst e; rw [hg] at hd; injection hd with hd; subst hd; exact ho
        · exact HN.out j d (by omega) hd
      have hle : wd = 1 → pos + wd ≤ s.size := fun e => by omega
      have hms : wd = 1 → s.size - (pos + wd) < s.size - pos := fun e => by omega
      clear hW1 hit hbw k1 k2 hrw hc
      cases h1 : lowB c with
      | true =>
        rw [h1] at Q1
        have hw := k3 (.inl h1)
        have HN2 := hnext (by unfold okF; rw [h1]; rfl) hw
        replace hle := hle hw
        replace hms := hms hw
        clear hw h1 k3 hnext HN hg
        go_wp2_with fail
        refine (Q1.out _).mono ?_
        rintro e w2 ⟨rfl, rfl⟩
        go_wp2_with fail
        go_roundw
        case rel => exact ⟨_, hit2, hle, HN2, hbw2⟩
        case measure => rw [iterPos_of hit2, hpos0]; exact hms
      | false =>
        rw [h1] at Q1
        rcases Nat.eq_zero_or_pos pos with h0 | h0
        · obtain rfl : q = false := by rw [← HQ.out]; exact form_bad hg (by unfold okF; rw [h1, h0]; rfl)
          subst h0
          clear h1 k3 hnext HN hg HQ
          go_wp2_with fail
          refine (Q1.out _).mono ?_
          rintro e w2 ⟨rfl, rfl⟩
          go_wp2_with fail
          go_ret
          exact ⟨rfl, hbw2⟩
        · have hz : ((pos : Int) == 0) = false := by rw [beq_eq_false_iff_ne]; omega
          have hne : (pos != 0) = true := by rw [bne_iff_ne]; omega
          cases h2 : digB c with
          | true =>
            rw [h2] at Q3
            have hw := k3 (.inr h2)
            have HN2 := hnext (by unfold okF; rw [h2, hne]; simp) hw
            replace hle := hle hw
            replace hms := hms hw
            clear hw h1 h2 k3 hnext HN hg hne
            go_wp2_with fail
            refine (Q1.out _).mono ?_
            rintro e w2 ⟨rfl, rfl⟩
            go_wp2_with fail
            refine (Q3.out _).mono ?_
            rintro e w2 ⟨rfl, rfl⟩
            go_wp2_with fail
            go_roundw
            case rel => exact ⟨_, hit2, hle, HN2, hbw2⟩
            case measure => rw [iterPos_of hit2, hpos0]; exact hms
          | false =>
            rw [h2] at Q3
            obtain rfl : q = false := by rw [← HQ.out]; exact form_bad hg (by unfold okF; rw [h1, h2]; simp)
            clear h1 h2 k3 hnext HN hg HQ hne
            go_wp2_with fail
            refine (Q1.out _).mono ?_
            rintro e w2 ⟨rfl, rfl⟩
            go_wp2_with fail
            refine (Q3.out _).mono ?_
            rintro e w2 ⟨rfl, rfl⟩
            go_wp2_with fail
            go_ret
            exact ⟨rfl, hbw2⟩
    · have hnx : ∀ ty, (Instr.next (.pointer (some ⟨w.heap.size, 0, none⟩)) true ty).run Tryd.prog wr = _ := fun ty => Lib.run_next_end_at wr w.heap.size s pos ty hit hp
      have hq : q = (s.data.toList != []) := by
        rw [← HQ.out]
        cases hs : s.data.toList with
        | nil => rfl
        | cons d t =>
          rw [← hs, (form_iff _).2 ⟨by rw [hs]; simp, fun j c hc => HN.out j c (by have := (List.getElem?_eq_some_iff.1 hc).1; omega) hc⟩, hs]
          rfl
      have hq2 : (!s.toList.isEmpty) = q := by rw [ByteArray.toList_eq, hq]; cases s.data.toList <;> rfl
      clear HN HQ hps hq
      go_wp2_with fail
      go_ret
      exact ⟨by rw [← hq2]; rfl, hbw⟩
end Go.Proofs.YtcmhnaanfkpheaaDoor
