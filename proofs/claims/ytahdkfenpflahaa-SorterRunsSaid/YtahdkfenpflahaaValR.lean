/- Rows: contracts of Orders and of its reference. -/
import Derived.Test.YtahdkfenpflahaaValC
import Derived.Test.YtahdkfenpflahaaSl
import Derived.Test.YtahdkfenpflahaaNth
namespace Go.Proofs.Ytahdkfenpflahaa
set_option linter.unusedVariables false
open Go.ChangeShapes Go.WideShapes Go.ChangeAt Go.RowKit

abbrev RowAt := SlAt valCells 3
theorem RowAt.val {w : World} {B n c : Nat} {A : Option Addr} {r : List ValV} (h : RowAt w B A n c r) {i : Nat} (hi : i < n) :
    ∃ b off v, A = some ⟨b, off, none⟩ ∧ b < B ∧ r[i]? = some v ∧ w.cell? ⟨b, off + i * 3, none⟩ = some (.int .i64 v.kind) ∧ w.cell? ⟨b, off + i * 3 + 1, none⟩ = some (.int .i64 v.num) ∧ w.cell? ⟨b, off + i * 3 + 2, none⟩ = some (.string v.str) := by
  obtain ⟨b, off, v, e, hb, hv, hc⟩ := h.at (by omega) hi
  exact ⟨b, off, v, e, hb, hv, hc 0 _ rfl, hc 1 _ rfl, hc 2 _ rfl⟩
theorem cmpR_at {r s : List ValV} {k : Nat} {a b : ValV} (h1 : r[k]? = some a) (h2 : s[k]? = some b) : cmpR (r.drop k) (s.drop k) = if cmpV a b = 0 then cmpR (r.drop (k + 1)) (s.drop (k + 1)) else cmpV a b := by
  rw [drop_at h1, drop_at h2]
  rfl
theorem cmpR_end {r s : List ValV} {k : Nat} (h1 : k ≤ r.length) (h2 : k ≤ s.length) (h : k = r.length ∨ k = s.length) : cmpR (r.drop k) (s.drop k) = cmpI r.length s.length := by
  by_cases a : k = r.length
  · rw [List.drop_of_length_le (l := r) (by omega)]
    by_cases b : k = s.length
    · rw [List.drop_of_length_le (by omega), cmpI_zero.2 (by omega)]; rfl
    · rw [List.drop_eq_getElem_cons (l := s) (by omega)]
      unfold cmpI
      rw [if_pos (by omega)]
      rfl
  · rw [List.drop_of_length_le (l := s) (by omega), List.drop_eq_getElem_cons (l := r) (by omega)]
    unfold cmpI
    rw [if_neg (by omega), if_pos (by omega)]
    rfl
set_option maxHeartbeats 1000000 in
theorem cmpFunc_c (A A2 : Option Addr) (n c n2 c2 : Nat) (r s : List ValV) (w : World) (h : RowAt w w.heap.size A n c r) (h2 : RowAt w w.heap.size A2 n2 c2 s) :
    Calls Try.prog 37 #[.slice A n c, .slice A2 n2 c2, .func (.func 22) #[] #[]] w fun e w' => e = .returned (.int .i64 (cmpR r s)) ∧ Below w.heap.size w w' := by
  have l1 := h.len
  have l2 := h2.len
  have m1 := h.cap
  have m2 := h.max
  have m3 := h2.cap
  have m4 := h2.max
  unfold maxLen at m2 m4
  have H := hide h
  have H2 := hide h2
  clear h h2
  go_enter Try.func37, Try.ntmps37
  go_wp2
  go_loopw [13] (fun i wr => ∃ k : Nat, k ≤ n ∧ k ≤ n2 ∧ i = .int .i64 k ∧ Hid (Below w.heap.size w wr) ∧ Hid (cmpR (r.drop k) (s.drop k) = cmpR r s)) (fun i _ => n - (intOf i).toNat)
  case atStart => exact ⟨0, Nat.zero_le _, Nat.zero_le _, rfl, Below.refl _ _, rfl⟩
  case round =>
    obtain ⟨k, hk, hk2, rfl, HB, HR⟩ := hrel
    by_cases h1 : k < n
    · obtain ⟨b, off, v, rfl, hb, hv, hc0, hc1, hc2⟩ := RowAt.val (H.out.below HB.out) h1
      by_cases h2 : k < n2
      · obtain ⟨b2, off2, v2, rfl, hb2, hv2, hd0, hd1, hd2⟩ := RowAt.val (H2.out.below HB.out) h2
        have hst := HR.out.symm.trans (cmpR_at hv hv2)
        have q := fun W => order_c v v2 W
        unfold valAgg at q
        obtain ⟨vk, vn, vs⟩ := v
        obtain ⟨vk2, vn2, vs2⟩ := v2
        simp only at q hc0 hc1 hc2 hd0 hd1 hd2
        generalize cmpV ⟨vk, vn, vs⟩ ⟨vk2, vn2, vs2⟩ = x at *
        have HS := hide hst
        have Q := hide q
        clear hst q hv hv2
        have e0 := World.cell?_alloc_some wr ⟨b2, off2 + k * 3, none⟩ (.cells #[.int .i64 vk, .int .i64 vn, .string vs] 44) (by simp [hd0])
        have e1 := World.cell?_alloc_some wr ⟨b2, off2 + k * 3 + 1, none⟩ (.cells #[.int .i64 vk, .int .i64 vn, .string vs] 44) (by simp [hd1])
        have e2 := World.cell?_alloc_some wr ⟨b2, off2 + k * 3 + 2, none⟩ (.cells #[.int .i64 vk, .int .i64 vn, .string vs] 44) (by simp [hd2])
        by_cases hx : x = 0
        · have HX : Hid (cmpR r s = cmpR (r.drop (k + 1)) (s.drop (k + 1))) := HS.out.trans (if_pos hx)
          subst hx
          go_wp2_with fail
          refine (Q.out _).mono ?_
          rintro e w1 ⟨rfl, hb⟩
          have HB1 := hide (HB.out.trans ((((Below.refl wr.heap.size wr).alloc (Nat.le_refl _) _).alloc (by simp) _ |>.trans (hb.mono (by simp; omega))).mono HB.out.size))
          clear hb
          go_wp2_with fail
          go_roundw
          case rel => exact ⟨k + 1, by omega, by omega, by go_num, HB1, HX.out.symm⟩
          case measure => simp [intOf]; omega
        · have HX : Hid (cmpR r s = x) := HS.out.trans (if_neg hx)
          have f1 : (x != 0) = true := by simp [hx]
          clear hx
          go_wp2_with fail
          refine (Q.out _).mono ?_
          rintro e w1 ⟨rfl, hb⟩
          have HB1 := hide (HB.out.trans ((((Below.refl wr.heap.size wr).alloc (Nat.le_refl _) _).alloc (by simp) _ |>.trans (hb.mono (by simp; omega))).mono HB.out.size))
          clear hb
          go_wp2_with fail
          go_ret
          exact ⟨ret_int HX.out.symm, HB1.out⟩
      · have hst := HR.out.symm.trans (cmpR_end (by omega) (by omega) (.inr (by omega)))
        have hx : cmpI r.length s.length = 1 := by unfold cmpI; rw [if_neg (by omega), if_pos (by omega)]
        rw [hx] at hst
        have HS := hide hst
        clear hst hx hv
        go_wp2_with fail
        go_ret
        exact ⟨ret_int HS.out.symm, HB.out.alloc HB.out.size _⟩
    · have hst := HR.out.symm.trans (cmpR_end (by omega) (by omega) (.inl (by omega)))
      by_cases h2 : n < n2
      · have hx : cmpI r.length s.length = -1 := by unfold cmpI; rw [if_pos (by omega)]
        rw [hx] at hst
        have HS := hide hst
        clear hst hx
        go_wp2_with fail
        go_ret
        exact ⟨ret_int HS.out.symm, HB.out⟩
      · have hx : cmpI r.length s.length = 0 := cmpI_zero.2 (by omega)
        rw [hx] at hst
        have HS := hide hst
        clear hst hx
        go_wp2_with fail
        go_ret
        exact ⟨ret_int HS.out.symm, HB.out⟩
theorem orders_c (A A2 : Option Addr) (n c n2 c2 : Nat) (r s : List ValV) (w : World) (h : RowAt w w.heap.size A n c r) (h2 : RowAt w w.heap.size A2 n2 c2 s) :
    Calls Try.prog 23 #[.slice A n c, .slice A2 n2 c2] w fun e w' => e = .returned (.int .i64 (cmpR r s)) ∧ Below w.heap.size w w' := by
  have Q := hide (cmpFunc_c A A2 n c n2 c2 r s w h h2)
  clear h h2
  go_enter Try.func23, Try.ntmps23
  go_wp2_with fail
  refine Q.out.mono ?_
  rintro e w1 ⟨rfl, hb⟩
  go_wp2_with fail
  go_ret
  exact ⟨rfl, hb⟩
end Go.Proofs.Ytahdkfenpflahaa
