/- The contract of the reference's Turned. -/
import Derived.Test.YtlfgfjljddjncaaDoorFindO
import Derived.Laws.IdiomStrings
namespace Go.Proofs.YtlfgfjljddjncaaDoor
set_option linter.unusedVariables false
open Go.ChangeShapes Go.WideShapes Go.ChangeAt Go.RowKit

/-- Block g holds the bytes l, not frozen. -/
def Holds (w : World) (g : Nat) (l : List UInt8) : Prop := ∀ j, j < l.length → w.cell? ⟨g, j, none⟩ = some (.int .u8 ((l.getD j 0).toNat : Int)) ∧ w.frozen? ⟨g, j, none⟩ = false
theorem made_bytes (w : World) (s : ByteArray) : ∃ cap W1, (convert 9 39 (.string s)).run Tryd.prog w = .ok (.slice (some ⟨w.heap.size, 0, none⟩) s.size cap) W1 ∧ s.size ≤ cap ∧ Below w.heap.size w W1 ∧ Holds W1 w.heap.size s.data.toList ∧ w.heap.size < W1.heap.size := by
  have hr := run_bytes_of_string (P := Tryd.prog) w 9 39 5 s Tryd.underlying9 Tryd.underlying39 Tryd.underlying5
  have hcap : s.size ≤ grownCap w s.size 0 5 := grownCap_ge _ _ _ _
  generalize grownCap w s.size 0 5 = c at *
  refine ⟨_, _, hr, hcap, ?_, ?_, ?_⟩
  · exact (Below.refl _ _).drew.alloc (Nat.le_refl _) _
  · intro j hj
    have hl := str_len s
    refine ⟨?_, ?_⟩
    · refine (cell_of_row (w.drew.alloc _) w.heap.size j _ _ _ (heap_alloc_new w.drew _)).trans ?_
      rw [bytesRow, Array.getElem?_append_left (by rw [Array.size_map]; show j < s.size; omega), Array.getElem?_map]
      have hj2 : j < s.data.size := by show j < s.size; omega
      rw [Array.getElem?_eq_getElem hj2, List.getD_eq_getElem?_getD, List.getElem?_eq_getElem hj]
      simp
    · have := World.frozen?_alloc_mark w.drew (bytesRow s c) 5 (bytesRow s c).size ((bytesRow s c).size + 1) j
      refine this.trans ?_
      have hz : s.size ≤ (bytesRow s c).size := by
        unfold bytesRow
        rw [Array.size_append, Array.size_map]
        exact Nat.le_add_right _ _
      simp
      omega
  · rw [World.size_alloc]
    exact Nat.lt_succ_self _
theorem Holds.set {w : World} {g : Nat} {l : List UInt8} (h : Holds w g l) {k : Nat} (hk : k < l.length) (x : UInt8) {v : Int} (hv : v = (x.toNat : Int)) : Holds (w.setCell ⟨g, k, none⟩ (.int .u8 v)).drew g (l.set k x) := by
  intro j hj
  rw [List.length_set] at hj
  obtain ⟨h1, h2⟩ := h j hj
  refine ⟨?_, by simpa using h2⟩
  show (w.setCell ⟨g, k, none⟩ (.int .u8 v)).cell? ⟨g, j, none⟩ = _
  by_cases e : k = j
  · subst e
    rw [World.cell?_setCell_same w _ _ (h k hk).1, List.getD_eq_getElem?_getD, List.getElem?_set_self hk, hv]
    rfl
  · rw [World.cell?_setCell_other w _ _ _ (fun q => e (by injection q)), h1, List.getD_eq_getElem?_getD, List.getD_eq_getElem?_getD, List.getElem?_set_ne e]
theorem and32 (x : Nat) (h : x < 4294967296) : bits BinOp.and IntKind.u32 (x : Int) 1 = ((x % 2 : Nat) : Int) := by
  have e : bits BinOp.and IntKind.u32 (x : Int) 1 = IntKind.wrap .u32 ((BitVec.ofInt 32 (x : Int) &&& BitVec.ofInt 32 1).toNat : Int) := rfl
  rw [e, BitVec.toNat_and, BitVec.toNat_ofInt, show ((x : Int) % ((2 : Nat) ^ 32 : Nat)).toNat = x by omega, show (BitVec.ofInt 32 1).toNat = 2 ^ 1 - 1 by decide, Nat.and_two_pow_sub_one_eq_mod]
  exact wrapu32 _ (by omega)
theorem xor8 (x y : UInt8) : bits BinOp.xor IntKind.u8 (x.toNat : Int) (y.toNat : Int) = ((x ^^^ y).toNat : Int) := by
  have hx := x.toNat_lt
  have hy := y.toNat_lt
  have hl : x.toNat ^^^ y.toNat < 256 := Nat.xor_lt_two_pow (n := 8) hx hy
  have e : bits BinOp.xor IntKind.u8 (x.toNat : Int) (y.toNat : Int) = IntKind.wrap .u8 ((BitVec.ofInt 8 (x.toNat : Int) ^^^ BitVec.ofInt 8 (y.toNat : Int)).toNat : Int) := rfl
  rw [e, BitVec.toNat_xor, BitVec.toNat_ofInt, BitVec.toNat_ofInt, show ((x.toNat : Int) % ((2 : Nat) ^ 8 : Nat)).toNat = x.toNat by omega, show ((y.toNat : Int) % ((2 : Nat) ^ 8 : Nat)).toNat = y.toNat by omega, UInt8.toNat_xor]
  unfold IntKind.wrap
  simp [IntKind.bits, IntKind.signed]
  omega
theorem pow8 (k : Nat) : (2 : Int) ^ k % 256 = ((UInt8.ofNat (2 ^ k)).toNat : Int) := by
  rw [UInt8.toNat_ofNat']
  simp
theorem bit_next (m n : Nat) (hm : m < 4294967296) : (bits BinOp.and IntKind.u32 ((m : Int) / 2 ^ n) 1 == 1) = decide (m / 2 ^ n % 2 = 1) := by
  have e : (m : Int) / 2 ^ n = ((m / 2 ^ n : Nat) : Int) := by simp
  rw [e, and32 _ (Nat.lt_of_le_of_lt (Nat.div_le_self _ _) hm), Bool.eq_iff_iff]
  simp
  omega
theorem mask_one (m n a : Nat) (h : m / 2 ^ n % 2 = 1) : m % 2 ^ (n + 1) * 2 ^ a = m % 2 ^ n * 2 ^ a + 2 ^ (a + n) := by
  rw [Nat.mod_pow_succ, h, Nat.mul_one, Nat.add_mul, Nat.pow_add, Nat.mul_comm (2 ^ n)]
theorem mask_none (m n : Nat) (h : ¬ m / 2 ^ n % 2 = 1) : m % 2 ^ (n + 1) = m % 2 ^ n := by
  rw [Nat.mod_pow_succ, show m / 2 ^ n % 2 = 0 by omega, Nat.mul_zero, Nat.add_zero]
theorem mask_low (m n a : Nat) : m % 2 ^ n * 2 ^ a < 2 ^ (a + n) := by
  rw [Nat.pow_add, Nat.mul_comm]
  exact (Nat.mul_lt_mul_left (Nat.two_pow_pos a)).2 (Nat.mod_lt _ (Nat.two_pow_pos n))
theorem back_c (w : World) (g cap : Nat) (l : List UInt8) (n : Nat) (hn : l.length = n) (h : Holds w g l) : (convert 39 9 (.slice (some ⟨g, 0, none⟩) n cap)).run Tryd.prog w = .ok (.string ⟨l.toArray⟩) w := by
  subst hn
  refine run_convert_bytes_back (P := Tryd.prog) w 39 9 5 ⟨g, 0, none⟩ cap l Tryd.underlying39 Tryd.underlying5 Tryd.underlying9 ?_
  intro j hj
  have := (h j hj).1
  rw [List.getD_eq_getElem?_getD, List.getElem?_eq_getElem hj] at this
  rw [add_off, Nat.zero_add]
  exact this
set_option maxHeartbeats 1000000 in
theorem turned_yes (s : ByteArray) (a : Nat) (m : Nat) (hs : s.size ≤ 8388608) (h1 : (a : Int) < 8 * s.size) (hm : m < 4294967296) (w : World) :
    Calls Tryd.prog 23 #[.string s, .int .i64 a, .int .u32 m] w fun e w' => e = .returned (.string (turnP s a m)) ∧ Below w.heap.size w w' := by
  obtain ⟨cap, W1, hr, hcap, hb, hh, hz⟩ := made_bytes w s
  have hfin : ∀ n, n ≤ 32 → n + a ≤ 8 * s.size → (n = 32 ∨ n + a = 8 * s.size) → turnP s a m = ⟨(turnL s.data.toList (m % 2 ^ n * 2 ^ a)).toArray⟩ := by
    intro n h2 h3 h4
    unfold turnP maskN
    rw [if_pos (by omega), Int.toNat_natCast, show min 32 (8 * s.size - a) = n by omega]
  generalize turnP s a m = res at *
  have HF := hide hfin
  have HH := hide hh
  have HB := hide hb
  clear hh hb hfin
  go_enter Tryd.func23, Tryd.ntmps23
  go_wp2
  go_loopw [8, 9] (fun i k wr => ∃ n : Nat, n ≤ 32 ∧ n + a ≤ 8 * s.size ∧ i = .int .i64 n ∧ Hid (Below w.heap.size w wr ∧ Holds wr w.heap.size (turnL s.data.toList (m % 2 ^ n * 2 ^ a)))) (fun i _ _ => (32 - intOf i).toNat)
  case atStart => exact ⟨0, by omega, by omega, rfl, ⟨HB.out, by rw [Nat.pow_zero, Nat.mod_one, Nat.zero_mul, turnL_zero]; exact HH.out⟩⟩
  case round =>
    obtain ⟨n, hn, hna, rfl, HR⟩ := hrel
    have hsI : (s.size : Int) ≤ 8388608 := by omega
    have hll : (turnL s.data.toList (m % 2 ^ n * 2 ^ a)).length = s.size := by rw [turnL_len, str_len]
    have hbk := back_c wr w.heap.size cap _ s.size hll HR.out.2
    by_cases hgo : n < 32 ∧ (a : Int) + n < 8 * s.size
    · obtain ⟨hlt, hlt2⟩ := hgo
      have hw : IntKind.i64.wrap ((a : Int) + n) = (a : Int) + n := IntWalk.i64_in _ (by omega)
      have hk : (a + n) / 8 < (turnL s.data.toList (m % 2 ^ n * 2 ^ a)).length := by rw [hll]; omega
      have hk2 : (a + n) / 8 < s.size := by omega
      obtain ⟨hc, hf⟩ := HR.out.2 _ hk
      have hbit := bit_next m n hm
      have hnx := turnL_bit s.data.toList (a + n) (m % 2 ^ n * 2 ^ a) 0 (mask_low m n a) (by rw [str_len]; omega)
      generalize hc0 : (turnL s.data.toList (m % 2 ^ n * 2 ^ a)).getD ((a + n) / 8) 0 = c at *
      have HX := hide hnx
      have HK := hide hk
      clear hnx hc0 hk hll hbk
      by_cases hp : m / 2 ^ n % 2 = 1
      · have hb1 : (bits BinOp.and IntKind.u32 ((m : Int) / 2 ^ n) 1 == 1) = true := by rw [hbit]; simp [hp]
        clear hbit
        have HP := hide hp
        clear hp
        go_wp2
        go_region
        go_wp2
        go_roundw
        case rel =>
          refine ⟨n + 1, by omega, by omega, by go_num, ⟨(HR.out.1.setCell (Nat.le_refl _) _).drew, ?_⟩⟩
          rw [mask_one m n a HP.out, HX.out]
          refine HR.out.2.set HK.out _ ?_
          rw [← xor8, ← pow8]
        case measure => simp [intOf]; omega
      · have hb1 : (bits BinOp.and IntKind.u32 ((m : Int) / 2 ^ n) 1 == 1) = false := by rw [hbit]; simp [hp]
        clear hbit
        have HP := hide hp
        clear hp
        go_wp2
        go_roundw
        case rel => exact ⟨n + 1, by omega, by omega, by go_num, by rw [mask_none m n HP.out]; exact HR⟩
        case measure => simp [intOf]; omega
    · have hfin := HF.out n hn hna (by omega)
      have HF2 := hide hfin
      clear hfin
      rcases (show ¬ n < 32 ∨ (n < 32 ∧ ¬ (a : Int) + n < 8 * s.size) by omega) with h3 | ⟨h3, h4⟩
      all_goals
        clear hgo
        go_wp2
        go_ret
        exact ⟨ret_str HF2.out.symm, HR.out.1⟩
theorem turned_no (s : ByteArray) (a : Int) (m : Nat) (hs : s.size ≤ 8388608) (h1 : ¬ (0 ≤ a ∧ a < 8 * s.size)) (w : World) :
    Calls Tryd.prog 23 #[.string s, .int .i64 a, .int .u32 m] w fun e w' => e = .returned (.string (turnP s a m)) ∧ Below w.heap.size w w' := by
  obtain ⟨cap, W1, hr, hcap, hb, hh, hz⟩ := made_bytes w s
  have hfin : turnP s a m = s := by unfold turnP; rw [if_neg h1]
  rw [hfin]
  have hsI : (s.size : Int) ≤ 8388608 := by omega
  have HB := hide hb
  clear hh hb hfin
  rcases (show a < 0 ∨ (0 ≤ a ∧ 8 * (s.size : Int) ≤ a) by omega) with h | ⟨h, h2⟩
  all_goals
    clear h1
    go_enter Tryd.func23, Tryd.ntmps23
    go_wp2
    go_ret
    exact ⟨rfl, HB.out⟩
theorem turned_c (s : ByteArray) (a : Int) (m : Int) (hs : s.size ≤ 8388608) (h0 : 0 ≤ m) (hm : m < 4294967296) (w : World) :
    Calls Tryd.prog 23 #[.string s, .int .i64 a, .int .u32 m] w fun e w' => e = .returned (.string (turnP s a m.toNat)) ∧ Below w.heap.size w w' := by
  obtain ⟨k, rfl⟩ : ∃ k : Nat, m = k := ⟨m.toNat, by omega⟩
  rw [Int.toNat_natCast]
  by_cases h : 0 ≤ a ∧ a < 8 * s.size
  · obtain ⟨b, rfl⟩ : ∃ b : Nat, a = b := ⟨a.toNat, by omega⟩
    exact turned_yes s b k hs h.2 (by omega) w
  · exact turned_no s a k hs h w
end Go.Proofs.YtlfgfjljddjncaaDoor
