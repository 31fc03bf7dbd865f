/- Contracts of like.plain, Exact, Prefix and Quote. -/
import Derived.Test.YtcojhpfnehfppaaLkF
namespace Go.Proofs.Ytcojhpfnehfppaa
set_option linter.unusedVariables false
open Go.ChangeShapes Go.WideShapes Go.ChangeAt Go.RowKit

def strL (l : List UInt8) : ByteArray := ⟨l.toArray⟩
theorem strL_list (l : List UInt8) : (strL l).data.toList = l := by simp [strL]
theorem strL_str (s : ByteArray) : strL s.data.toList = s := by
  apply ByteArray.ext
  apply Array.ext'
  simp [strL]
theorem strL_size (l : List UInt8) : (strL l).size = l.length := by rw [← str_len, strL_list]
theorem BldAt.kept {w w' : World} {B b : Nat} {l : List UInt8} (h : BldAt w B b l) (hb : Below w.heap.size w w') : BldAt w' B b l := by
  have key : ∀ p, Lib.BuilderAtF 43 5 B b p (Lib.byteCells l) w → Lib.BuilderAtF 43 5 B b p (Lib.byteCells l) w' := by
    intro p h
    have hlt := h.lt
    obtain ⟨hB, v, hh, hown, hne⟩ := h
    exact ⟨hB, v, (hb.block b hlt).trans hh, hown.kept (row := none) ⟨hb.os, hb.tape, hb.output, hb.size, fun k hk _ => hb.block k hk⟩ (by cases hv : v.ownBlock <;> simp), hne⟩
  rcases h with h | h
  · exact .inl (key _ h)
  · exact .inr (key _ h)
theorem bld_byteZ (B b : Nat) (l : List UInt8) (c : UInt8) (z : Int) (w : World) (hz : z = c.toNat) (h : BldAt w B b l) (hl : l.length ≤ 1099511627776) (hB : B ≤ w.heap.size) :
    Calls Try.prog 24 #[.pointer (some ⟨b, 0, none⟩), .int .u8 z] w fun e w' => e = .returned .nilIface ∧ BldAt w' B b (l ++ [c]) ∧ Below B w w' := by
  subst hz
  refine (bld_byte B b l c w h hl hB).mono ?_
  rintro e w' ⟨rfl, h1, h2, h3⟩
  exact ⟨rfl, h1, h2⟩
/-- The bytes ahead of the first sign that is none. -/
def plainL : List Sg → List UInt8
  | .byte b :: r => b :: plainL r
  | _ => []
theorem plain_len : ∀ l : List Sg, (plainL l).length ≤ l.length
  | .byte b :: r => by have := plain_len r; rw [plainL, List.length_cons, List.length_cons]; omega
  | .one :: r => Nat.zero_le _
  | .all :: r => Nat.zero_le _
  | [] => Nat.zero_le _
/-- How far the bytes have been written. -/
def PlainAt (l : List Sg) (k : Nat) (acc : List UInt8) : Prop := acc ++ plainL (l.drop k) = plainL l ∧ acc.length ≤ k
theorem plainAt_next {l : List Sg} {k : Nat} {acc : List UInt8} {b : UInt8} (h : PlainAt l k acc) (hg : l[k]? = some (.byte b)) : PlainAt l (k + 1) (acc ++ [b]) := by
  obtain ⟨h1, h2⟩ := h
  rw [drop_at hg, plainL] at h1
  exact ⟨by rw [← h1]; simp, by rw [List.length_append]; simp; omega⟩
theorem plainAt_end {l : List Sg} {k : Nat} {acc : List UInt8} (h : PlainAt l k acc) (hg : ∀ b, l[k]? ≠ some (.byte b)) : acc = plainL l := by
  obtain ⟨h1, h2⟩ := h
  rw [← h1]
  have : plainL (l.drop k) = [] := by
    cases he : l[k]? with
    | none => rw [List.drop_of_length_le (List.getElem?_eq_none_iff.1 he)]; rfl
    | some g =>
      rw [drop_at he]
      cases g with
      | byte b => exact absurd he (hg b)
      | one => rfl
      | all => rfl
  rw [this, List.append_nil]
def GivesS (w : World) (s : ByteArray) (e : Ending) (w' : World) : Prop := e = .returned (.string s) ∧ Below w.heap.size w w'
set_option maxRecDepth 100000 in
set_option maxHeartbeats 1000000 in
theorem plain_c (A : Option Addr) (n c : Nat) (l : List Sg) (w : World) (h : SlAt elC 2 w w.heap.size A n c l) (hn : n ≤ 1048576) :
    Calls Try.prog 20 #[.slice A n c] w (GivesS w (strL (plainL l))) := by
  have H := hide h
  have HL := hide h.len
  have H0 := hide (bld_new w)
  clear h
  obtain ⟨g, hg⟩ : ∃ g, Hid (w.heap.size = g) := ⟨_, rfl⟩
  have HB0 := hide ((Below.refl w.heap.size w).alloc (Nat.le_refl _) (.cells #[.pointer none, .slice none 0 0] 43))
  rw [hg.out] at H0 HB0
  go_enter Try.func20, Try.ntmps20
  go_wp2_with fail
  simp only [hg.out]
  go_wp2_with fail
  go_loopw [8] (fun i wr => ∃ k : Nat, ∃ acc : List UInt8, k ≤ n ∧ i = .int .i64 k ∧ Hid (BldAt wr g g acc) ∧ Hid (Below g w wr) ∧ Hid (PlainAt l k acc)) (fun i _ => n - (intOf i).toNat)
  case atStart => exact ⟨0, [], Nat.zero_le _, rfl, H0, HB0, rfl, Nat.le_refl _⟩
  case round =>
    obtain ⟨k, acc, hk, rfl, HK, HB, HP⟩ := hrel
    clear H0 HB0
    have hsize : g ≤ wr.heap.size := by have := HB.out.size; have := hg.out; omega
    have hw1 : IntKind.i64.wrap ((k : Int) + 1) = (k : Int) + 1 := IntWalk.i64_in _ (by omega)
    by_cases hlt : k < n
    · obtain ⟨b, off, x, rfl, hbl, hx, hc⟩ := (H.out.below (by rw [hg.out]; exact HB.out)).at (by omega) hlt
      cases x with
      | byte y =>
        have h0 := hc 0 _ rfl
        have h1 := hc 1 _ rfl
        rw [Nat.add_zero] at h0
        rw [← Nat.add_assoc] at h1
        have HP2 := hide (plainAt_next HP.out hx)
        have hal := HP.out.2
        have Q := hide (fun W (hW : Below wr.heap.size wr W) => bld_byteZ g g acc y _ W rfl (HK.out.kept hW) (by omega) (Nat.le_trans hsize hW.size))
        clear hc hx HP hal
        go_wp2_with fail
        refine (Q.out _ (by first | exact Below.refl _ _ | exact Bel.one _ _)).mono ?_
        rintro e w4 ⟨rfl, h4, hb4⟩
        have H4 := hide h4
        have HB4 := hide (HB.out.trans (((Below.refl g wr).alloc hsize _).trans hb4))
        clear h4 hb4 Q
        go_wp2_with fail
        go_roundw
        case rel => exact ⟨k + 1, acc ++ [y], by omega, by go_num, H4, HB4, HP2⟩
        case measure => simp [intOf]; omega
      | _ =>
        have h0 := hc 0 _ rfl
        have h1 := hc 1 _ rfl
        rw [Nat.add_zero] at h0
        rw [← Nat.add_assoc] at h1
        have HP2 := hide (plainAt_end HP.out (by intro b e; rw [hx] at e; cases e))
        have Q := hide (fun W (hW : Below wr.heap.size wr W) => bld_get g g acc W (HK.out.kept hW) (Nat.le_trans hsize hW.size))
        rw [HP2.out] at Q
        clear hc hx HP
        go_wp2_with fail
        refine (Q.out _ (by first | exact Below.refl _ _ | exact Bel.one _ _)).mono ?_
        rintro e w4 ⟨rfl, _, hb4, _⟩
        have HB4 := hide (HB.out.trans (((Below.refl g wr).alloc hsize _).trans hb4))
        clear hb4 Q
        go_wp2_with fail
        go_ret
        exact ⟨rfl, by rw [hg.out]; exact HB4.out⟩
    · have HP2 := hide (plainAt_end HP.out (by intro b e; rw [List.getElem?_eq_none (by rw [HL.out]; omega)] at e; cases e))
      have Q := hide (bld_get g g acc wr HK.out hsize)
      rw [HP2.out] at Q
      clear HP
      go_wp2_with fail
      refine Q.out.mono ?_
      rintro e w4 ⟨rfl, _, hb4, _⟩
      have HB4 := hide (HB.out.trans hb4)
      clear hb4 Q
      go_wp2_with fail
      go_ret
      exact ⟨rfl, by rw [hg.out]; exact HB4.out⟩
end Go.Proofs.Ytcojhpfnehfppaa
