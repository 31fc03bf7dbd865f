/- A row begins with another one's values just if its key begins with that one's; the front of a slice. No walk. -/
import Derived.Test.YtiealokabmjfjaaKcI
namespace Go.Proofs.Ytiealokabmjfjaa
set_option linter.unusedVariables false
open Go.ChangeShapes Go.WideShapes Go.ChangeAt Go.RowKit

theorem enc_head {v : ValV} (h : rightP v = true) : ∃ c l, encK v = c :: l ∧ c ≠ 255 := by
  rcases right_kinds h with rfl | rfl | rfl | ⟨n, rfl, _⟩ | ⟨s, rfl, _⟩
  · exact ⟨_, _, ek_null, by decide⟩
  · exact ⟨_, _, ek_false, by decide⟩
  · exact ⟨_, _, ek_true, by decide⟩
  · exact ⟨_, _, ek_num n, by decide⟩
  · exact ⟨_, _, ek_text s, by decide⟩
theorem after_some {c : UInt8} (hc : c ≠ 255) (l : List UInt8) : ∃ a, afterK (c :: l) = some a := by
  rw [afterK]
  cases afterK l with
  | some m => exact ⟨_, rfl⟩
  | none => exact ⟨_, if_neg hc⟩
theorem after_row {r : List ValV} (h : r.all rightP = true) (hn : r ≠ []) : ∃ a, afterK (bytesK r) = some a := by
  match r with
  | [] => exact absurd rfl hn
  | v :: r =>
    rw [List.all_cons, Bool.and_eq_true] at h
    obtain ⟨c, l, e, hc⟩ := enc_head h.1
    rw [bytesK_cons, e, List.cons_append]
    exact after_some hc _
theorem bytesK_app (r s : List ValV) : bytesK (r ++ s) = bytesK r ++ bytesK s := by simp [bytesK]
theorem bytes_prefix : ∀ r s : List ValV, r.all rightP = true → s.all rightP = true → (bytesK r <+: bytesK s ↔ r <+: s)
  | [], s, _, _ => ⟨fun _ => List.nil_prefix, fun _ => List.nil_prefix⟩
  | v :: r, [], _, _ => by
    obtain ⟨c, m, e⟩ := enc_ne v (bytesK r)
    rw [bytesK_cons, e]
    exact ⟨fun h => absurd (List.prefix_nil.1 h) (by simp), fun h => absurd (List.prefix_nil.1 h) (by simp)⟩
  | v :: r, u :: s, hr, hs => by
    rw [List.all_cons, Bool.and_eq_true] at hr hs
    have ih := bytes_prefix r s hr.2 hs.2
    rw [bytesK_cons, bytesK_cons, List.cons_prefix_cons, ← ih]
    constructor
    · rintro ⟨x, hx⟩
      rw [List.append_assoc] at hx
      have h1 := first_enc hr.1 (bytesK r ++ x)
      rw [hx, first_enc hs.1 (bytesK s)] at h1
      injection h1 with h1 _
      subst h1
      exact ⟨rfl, x, List.append_cancel_left hx⟩
    · rintro ⟨rfl, x, hx⟩
      exact ⟨x, by rw [List.append_assoc, hx]⟩
theorem row_range {r s : List ValV} (hr : r.all rightP = true) (hs : s.all rightP = true) {a : List UInt8} (ha : afterK (bytesK r) = some a) : r <+: s ↔ (0 ≤ cb (bytesK s) (bytesK r) ∧ cb (bytesK s) a < 0) := by
  rw [← bytes_prefix r s hr hs, begins_iff]
  constructor
  · rintro ⟨h1, h2⟩
    exact ⟨h1, h2 a ha⟩
  · rintro ⟨h1, h2⟩
    refine ⟨h1, fun b hb => ?_⟩
    rw [ha] at hb
    injection hb with hb
    rw [← hb]
    exact h2
/-- The front of a slice. -/
theorem flat_take {α : Type} (xss : List (List α)) (k i : Nat) (u : α) (h : (xss.take k).flatten[i]? = some u) : xss.flatten[i]? = some u := by
  have e : xss.flatten = (xss.take k).flatten ++ (xss.drop k).flatten := by rw [← List.flatten_append, List.take_append_drop]
  rw [e, List.getElem?_append_left (List.getElem?_eq_some_iff.1 h).1, h]
def frontA (c : Nat) (A : Option Addr) : Option Addr := if c = 0 then A else A.map (·.add 0)
theorem front_run {c n : Nat} {A : Option Addr} {k : Nat} (hk : k ≤ c) (W : World) : (Instr.slice 23 (.slice A n c) none (some (.int .i64 (k : Int))) none).run Try.prog W = .ok (.slice (frontA c A) k c) W := by
  obtain ⟨i0, hi0, hz0, hz1, hz2⟩ := info_parts value_info
  rw [run_slice_h (P := Try.prog) W 23 A n c (by kernel_rfl) .i64 (k : Int) (by omega) (by omega)]
  have he : Try.prog.elem 23 = 39 := by kernel_rfl
  rw [he]
  have hs : (sizeOf 39).run Try.prog W = .ok 3 W := by simp [sizeOf, typeInfo, hi0, hz1]
  rw [hs]
  show Result.ok (Value.slice (if c = 0 then A else A.map (·.add (0 * 3))) ((k : Int).toNat - 0) (c - 0)) W = _
  rfl
theorem front_row {W : World} {B c n : Nat} {A : Option Addr} {r : List ValV} {k : Nat} (hk : k ≤ n) (h : RowAt W B A n c r) : RowAt W B (frontA c A) k c (r.take k) := by
  have hl := h.len
  have hc := h.cap
  refine ⟨by rw [List.length_take]; omega, by omega, h.max, fun e => ?_, ⟨?_, fun h0 => ?_⟩⟩
  · have : A = none := by
      unfold frontA at e
      split at e
      · exact e
      · exact Option.map_eq_none_iff.1 e
    have := h.nil this
    omega
  · intro xs hx
    obtain ⟨a, _, rfl⟩ := List.mem_map.1 hx
    exact valCells_len a
  · have hk0 : 0 < k := by
      rcases Nat.eq_zero_or_pos k with rfl | hp
      · simp at h0
      · exact hp
    obtain ⟨b, off, e, hb, hcell⟩ := h.recs.2 (by rw [flat_len _ 3 h.recs.1, List.length_map, hl]; omega)
    subst e
    refine ⟨b, off, ?_, hb, fun i u hu => hcell i u (flat_take _ k i u (by rwa [← List.map_take]))⟩
    unfold frontA
    rw [if_neg (by omega)]
    show some ((⟨b, off, none⟩ : Addr).add 0) = _
    rw [add_off]
    rfl
end Go.Proofs.Ytiealokabmjfjaa
