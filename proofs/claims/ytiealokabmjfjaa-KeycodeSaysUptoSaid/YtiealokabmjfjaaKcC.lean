/- Contracts: the first value of bytes. -/
import Derived.Test.YtiealokabmjfjaaKcB
import Derived.Test.YtiealokabmjfjaaShelf
namespace Go.Proofs.Ytiealokabmjfjaa
set_option linter.unusedVariables false
open Go.ChangeShapes Go.WideShapes Go.ChangeAt Go.RowKit

def null : ValV := ⟨0, 0, { data := #[] }⟩
def numK (l : List UInt8) : Int := foldB l - 9223372036854775808
def firstN : List UInt8 → ValV × Nat
  | [] => (null, 0)
  | k :: r => if k.toNat = 0 then (null, 1) else if k.toNat = 1 then (match r with | [] => (null, 0) | b :: _ => (⟨1, b.toNat, .empty⟩, 2)) else if k.toNat = 2 then (if 8 ≤ r.length then (⟨2, numK (r.take 8), .empty⟩, 9) else (null, 0)) else
    if k.toNat = 3 then (if Lib.indexByte r 0 < 0 then (null, 0) else (⟨3, 0, strL (r.take (Lib.indexByte r 0).toNat)⟩, (Lib.indexByte r 0).toNat + 2)) else (null, 0)
theorem fold_take {l : List UInt8} {k : Nat} {c : UInt8} (h : l[k]? = some c) : foldB (l.take (k + 1)) = foldB (l.take k) * 256 + c.toNat := by rw [take_at h, foldB_snoc]
theorem fold_small (l : List UInt8) (k : Nat) (h : k ≤ 7) : 0 ≤ foldB (l.take k) ∧ foldB (l.take k) < 72057594037927936 := by
  have hr := foldB_range (l.take k).length (l.take k) rfl
  rw [List.length_take] at hr
  have h3 : ∀ a < 8, (256 : Int) ^ a ≤ 72057594037927936 := by decide
  have := h3 (min k l.length) (by omega)
  omega
theorem orU (z : Int) (c : UInt8) (h0 : 0 ≤ z) (h1 : z < 72057594037927936) : bits BinOp.or IntKind.u64 (z * 256) (c.toNat : Int) = z * 256 + c.toNat := by
  have hc := c.toNat_lt
  obtain ⟨m, rfl⟩ : ∃ m : Nat, z = m := ⟨z.toNat, by omega⟩
  have e : bits BinOp.or IntKind.u64 ((m : Int) * 256) (c.toNat : Int) = IntKind.wrap .u64 ((BitVec.ofInt 64 ((m : Int) * 256) ||| BitVec.ofInt 64 (c.toNat : Int)).toNat : Int) := rfl
  rw [e, BitVec.toNat_or, BitVec.toNat_ofInt, BitVec.toNat_ofInt]
  have e1 : (((m : Int) * 256) % ((2 : Nat) ^ 64 : Nat)).toNat = 2 ^ 8 * m := by omega
  have e2 : ((c.toNat : Int) % ((2 : Nat) ^ 64 : Nat)).toNat = c.toNat := by omega
  rw [e1, e2, ← Nat.two_pow_add_eq_or_of_lt (by omega) m]
  unfold IntKind.wrap
  simp [IntKind.bits, IntKind.signed]
  omega
theorem wrap64_eq (z : Int) : wrap64 z = IntKind.i64.wrap z := by
  rw [IntKind.wrap_i64]
  unfold wrap64
  omega
theorem numK_wrap (z : Int) (h0 : 0 ≤ z) (h1 : z < 18446744073709551616) : IntKind.i64.wrap (IntKind.u64.wrap (z - 9223372036854775808)) = z - 9223372036854775808 := by
  rw [IntKind.wrap_i64]
  unfold IntKind.wrap
  simp [IntKind.bits, IntKind.signed]
  omega
theorem number_c (s : ByteArray) (w : World) (h8 : 8 ≤ s.size) (hm : s.size ≤ 2000000000) : Calls Try.prog 30 #[.string s] w fun e w' => e = .returned (.int .i64 (numK (s.data.toList.take 8))) ∧ w = w' := by
  have hl := str_len s
  go_enter Try.func30, Try.ntmps30
  go_wp2_with fail
  go_loop [3, 5] (fun v i => ∃ k : Nat, k ≤ 8 ∧ i = .int .i64 k ∧ v = .int .u64 (foldB (s.data.toList.take k))) (fun _ i => (8 - intOf i).toNat)
  case atStart => exact ⟨0, by omega, rfl, rfl⟩
  case round =>
    obtain ⟨k, hk, rfl, rfl⟩ := hrel
    by_cases hlt : k < 8
    · have hs : k < s.size := by omega
      have HS := hide (fold_take (str_get hs))
      have hr := fold_small s.data.toList k (by omega)
      obtain ⟨hr0, hr1⟩ := hr
      have hor := orU _ s[k] hr0 hr1
      have hc := s[k].toNat_lt
      generalize foldB (s.data.toList.take k) = y at *
      go_wp2
      go_round
      case rel => exact ⟨k + 1, by omega, by go_num, by rw [HS.out]⟩
      case measure => simp [intOf]; omega
    · obtain rfl : k = 8 := by omega
      have hr := foldB_range 8 (s.data.toList.take 8) (by rw [List.length_take]; omega)
      have h3 : (256 : Int) ^ 8 = 18446744073709551616 := by decide
      rw [h3] at hr
      have hw := numK_wrap _ hr.1 hr.2
      have HNK := hide (show numK (s.data.toList.take 8) = foldB (s.data.toList.take 8) - 9223372036854775808 from rfl)
      generalize foldB (s.data.toList.take 8) = y at *
      have HW := hide hw
      clear hw hr
      go_wp2
      go_ret
      exact ⟨ret_int (by rw [HNK.out]; exact (wrap64_eq _).trans HW.out), rfl⟩
/-- What first gives. -/
def GivesF (w : World) (x : ValV × Nat) (e : Ending) (w' : World) : Prop := e = .returned (.tuple #[valAgg x.1, .int .i64 x.2]) ∧ Below w.heap.size w w'
theorem VBox.all {w : World} {g : Nat} {v : ValV} (h : VBox w g v) : w.cell? ⟨g, 0, none⟩ = some (.int .i64 v.kind) ∧ w.cell? ⟨g, 1, none⟩ = some (.int .i64 v.num) ∧ w.cell? ⟨g, 2, none⟩ = some (.string v.str) ∧ w.frozen? ⟨g, 0, none⟩ = false ∧ w.frozen? ⟨g, 1, none⟩ = false ∧ w.frozen? ⟨g, 2, none⟩ = false :=
  ⟨Lib.cell_of_heap h 0, Lib.cell_of_heap h 1, Lib.cell_of_heap h 2, Lib.frozen_of_heap h 0, Lib.frozen_of_heap h 1, Lib.frozen_of_heap h 2⟩
theorem VBox.set3 {w : World} {b : Nat} {v : ValV} (h : VBox w b v) (k n : Int) (t : ByteArray) : VBox (((w.setCell ⟨b, 0, none⟩ (.int .i64 k)).setCell ⟨b, 1, none⟩ (.int .i64 n)).setCell ⟨b, 2, none⟩ (.string t)) b ⟨k, n, t⟩ := by
  unfold VBox at *
  simp [World.setCell, Array.getElem?_modify, h]
theorem below_set3 {B b : Nat} {w w1 : World} (h : Below B w w1) (hb : B ≤ b) (x y z : Value) : Below B w (((w1.setCell ⟨b, 0, none⟩ x).setCell ⟨b, 1, none⟩ y).setCell ⟨b, 2, none⟩ z) :=
  ((h.setCell (p := ⟨b, 0, none⟩) hb x).setCell (p := ⟨b, 1, none⟩) hb y).setCell (p := ⟨b, 2, none⟩) hb z
theorem end_val2 {f : Func} {p y : Tmp} (hf : f.results = #[.cell p 39, .tmp y]) {a : Act} {w : World} {b : Nat} {v : ValV} {Q : Ending → World → Prop} (hp : a.tmps.getD p undef = .pointer (some ⟨b, 0, none⟩)) (hd : a.defers = []) (hx : VBox w b v) {y1 : Value} (h1 : a.tmps.getD y undef = y1)
    (hq : Q (.returned (.tuple #[valAgg v, y1])) w) : bodyPost Try.prog f Q .ret a w := by
  refine bodyPost_ret (v := .tuple #[valAgg v, y1]) ?_ hd hq
  have hl := run_loadVar_row (P := Try.prog) w b 39 39 _ (0, 0) _ hx Try.underlying39 rfl (by kernel_rfl)
  have hp' : a.tmps[p]?.getD undef = .pointer (some ⟨b, 0, none⟩) := by simpa using hp
  have h1' : a.tmps[y]?.getD undef = y1 := by simpa using h1
  simp [results, hf, hp', asAddr, hl, h1', valAgg, Result.andThen]
theorem firstN_cons (k : UInt8) (r : List UInt8) : firstN (k :: r) = if k.toNat = 0 then (null, 1) else if k.toNat = 1 then (match r with | [] => (null, 0) | b :: _ => (⟨1, b.toNat, .empty⟩, 2)) else if k.toNat = 2 then (if 8 ≤ r.length then (⟨2, numK (r.take 8), .empty⟩, 9) else (null, 0)) else
    if k.toNat = 3 then (if Lib.indexByte r 0 < 0 then (null, 0) else (⟨3, 0, strL (r.take (Lib.indexByte r 0).toNat)⟩, (Lib.indexByte r 0).toNat + 2)) else (null, 0) := rfl
theorem index_len : ∀ (l : List UInt8) (c : UInt8), Lib.indexByte l c < l.length
  | [], _ => by show (-1 : Int) < 0; omega
  | b :: l, c => by
    have := index_len l c
    rw [Lib.indexByte, List.length_cons]
    split
    · omega
    · split <;> omega
set_option maxRecDepth 100000 in
set_option maxHeartbeats 2000000 in
theorem first_c (s : ByteArray) (w : World) (hs : 0 < s.size) (hm : s.size ≤ 2000000000) : Calls Try.prog 18 #[.string s] w (GivesF w (firstN s.data.toList)) := by
  have hl := str_len s
  have hd : s.data.toList = s[0] :: s.data.toList.drop 1 := by
    have := drop_at (str_get hs)
    rwa [List.drop_zero] at this
  have hsl : ∀ W, (Instr.slice 9 (.string s) (some (.int .i64 1)) none none).run Try.prog W = .ok (.string (s.extract 1 s.size)) W := fun W => by
    rw [run_slice_string_l (P := Try.prog) W 9 s Try.underlying9 .i64 1 (by omega) (by omega)]
    rfl
  have hrl : (s.extract 1 s.size).data.toList = s.data.toList.drop 1 := by
    rw [ByteArray.data_extract, Array.toList_extract, List.extract_eq_take_drop, List.take_of_length_le (by rw [List.length_drop]; omega)]
  have hrz : (s.extract 1 s.size).size = s.size - 1 := by rw [← str_len, hrl, List.length_drop, hl]
  have hc := s[0].toNat_lt
  generalize hx : firstN s.data.toList = x
  rw [hd, firstN_cons, ← hrl] at hx
  generalize s.extract 1 s.size = t at *
  generalize hn : s[0].toNat = z at *
  have HN := hide hn
  have hg : ((s[0].toNat : Nat) : Int) = z := by rw [HN.out]
  have ht := str_len t
  clear hd hrl hn
  have hz : (z = 0) ∨ (z = 1) ∨ (z = 2) ∨ (z = 3) ∨ (((z : Int) == 0) = false ∧ ((z : Int) == 1) = false ∧ ((z : Int) == 2) = false ∧ ((z : Int) == 3) = false ∧ z ≠ 0 ∧ z ≠ 1 ∧ z ≠ 2 ∧ z ≠ 3) := by
    by_cases h0 : z = 0
    · exact .inl h0
    · by_cases h1 : z = 1
      · exact .inr (.inl h1)
      · by_cases h2 : z = 2
        · exact .inr (.inr (.inl h2))
        · by_cases h3 : z = 3
          · exact .inr (.inr (.inr (.inl h3)))
          · right; right; right; right
            simp [h0, h1, h2, h3]
            omega
  rcases hz with rfl | rfl | rfl | rfl | ⟨z0, z1, z2, z3, n0, n1, n2, n3⟩
  · rw [if_pos rfl] at hx
    subst hx
    go_enter Try.func18, Try.ntmps18
    go_wp2_with fail
    exact end_val2 Try.results18 rfl rfl (vbox_new w null) rfl ⟨rfl, Bel.one _ _⟩
  · rw [if_neg (by omega), if_pos rfl] at hx
    by_cases h1 : 0 < t.size
    · have hd := drop_at (str_get h1)
      rw [List.drop_zero] at hd
      rw [hd] at hx
      simp only at hx
      have hb := t[0].toNat_lt
      subst hx
      clear hd
      have ht1 : (1 : Int) ≤ t.size := by omega
      go_enter Try.func18, Try.ntmps18
      go_wp2_with fail
      exact end_val2 Try.results18 rfl rfl (vbox_new w ⟨1, t[0].toNat, .empty⟩) rfl ⟨rfl, Bel.one _ _⟩
    · have hd : t.data.toList = [] := List.eq_nil_of_length_eq_zero (by omega)
      rw [hd] at hx
      subst hx
      have ht1 : ¬ (1 : Int) ≤ t.size := by omega
      go_enter Try.func18, Try.ntmps18
      go_wp2_with fail
      exact end_val2 Try.results18 rfl rfl (vbox_new w null) rfl ⟨rfl, Bel.one _ _⟩
  · rw [if_neg (by omega), if_neg (by omega), if_pos rfl] at hx
    by_cases h8 : 8 ≤ t.size
    · rw [if_pos (by omega)] at hx
      subst hx
      have QN := hide (fun W => number_c t W h8 (by omega))
      have QM := hide (fun W => num_c (numK (t.data.toList.take 8)) W)
      generalize numK (t.data.toList.take 8) = n at *
      have ht8 : (8 : Int) ≤ t.size := by omega
      go_enter Try.func18, Try.ntmps18
      go_wp2_with fail
      refine (QN.out _).mono ?_
      rintro e w1 ⟨rfl, rfl⟩
      go_wp2_with fail
      refine (QM.out _).mono ?_
      rintro e w3 ⟨rfl, hb3⟩
      have HX3 := hide (VBox.kept (vbox_new w null) hb3)
      have HB3 := hide (Bel.then (Bel.one w _) hb3)
      obtain ⟨k0, k1, k2, y0, y1, y2⟩ := HX3.out.all
      simp only [null] at k0 k1 k2
      unfold valAgg
      clear hb3 QN QM
      go_wp2_with fail
      exact end_val2 Try.results18 rfl rfl (HX3.out.set3 2 _ _) rfl ⟨rfl, below_set3 HB3.out (Nat.le_refl _) _ _ _⟩
    · rw [if_neg (by omega)] at hx
      subst hx
      have ht8 : ¬ (8 : Int) ≤ t.size := by omega
      go_enter Try.func18, Try.ntmps18
      go_wp2_with fail
      exact end_val2 Try.results18 rfl rfl (vbox_new w null) rfl ⟨rfl, Bel.one _ _⟩
  · rw [if_neg (by omega), if_neg (by omega), if_neg (by omega), if_pos rfl] at hx
    have QI := hide (fun W => Try.strings_IndexByte t 0 W)
    have hge := Lib.indexByte_ge t.data.toList 0
    have hlt := index_len t.data.toList 0
    rw [show (0 : Int).toNat.toUInt8 = 0 from rfl] at QI
    by_cases h0 : Lib.indexByte t.data.toList 0 < 0
    · rw [if_pos h0] at hx
      subst hx
      generalize Lib.indexByte t.data.toList 0 = j at *
      go_enter Try.func18, Try.ntmps18
      go_wp2_with fail
      refine (QI.out _).mono ?_
      rintro e w1 ⟨rfl, rfl⟩
      go_wp2_with fail
      exact end_val2 Try.results18 rfl rfl (vbox_new w null) rfl ⟨rfl, Bel.one _ _⟩
    · rw [if_neg h0] at hx
      obtain ⟨j, hj⟩ : ∃ j : Nat, Lib.indexByte t.data.toList 0 = j := ⟨(Lib.indexByte t.data.toList 0).toNat, by omega⟩
      rw [hj] at hx QI h0 hlt
      rw [Int.toNat_natCast] at hx
      have hst : ∀ W, (Instr.slice 9 (.string t) none (some (.int .i64 (j : Int))) none).run Try.prog W = .ok (.string (strL (t.data.toList.take j))) W := fun W => by
        rw [← take_extract t j, run_slice_string_h (P := Try.prog) W 9 _ Try.underlying9 .i64 (j : Int) (by omega) (by omega)]
        rfl
      subst hx
      have QM := hide (fun W => str_c (strL (t.data.toList.take j)) W)
      generalize strL (t.data.toList.take j) = u at *
      clear hj hge
      go_enter Try.func18, Try.ntmps18
      go_wp2_with fail
      refine (QI.out _).mono ?_
      rintro e w1 ⟨rfl, rfl⟩
      go_wp2_with fail
      refine (QM.out _).mono ?_
      rintro e w3 ⟨rfl, hb3⟩
      have HX3 := hide (VBox.kept (vbox_new w null) hb3)
      have HB3 := hide (Bel.then (Bel.one w _) hb3)
      obtain ⟨k0, k1, k2, y0, y1, y2⟩ := HX3.out.all
      simp only [null] at k0 k1 k2
      unfold valAgg
      clear hb3 QI QM hst
      go_wp2_with fail
      exact end_val2 Try.results18 rfl rfl (HX3.out.set3 3 _ _) rfl ⟨by go_num, below_set3 HB3.out (Nat.le_refl _) _ _ _⟩
  · rw [if_neg n0, if_neg n1, if_neg n2, if_neg n3] at hx
    subst hx
    go_enter Try.func18, Try.ntmps18
    go_wp2_with fail
    exact end_val2 Try.results18 rfl rfl (vbox_new w null) rfl ⟨rfl, Bel.one _ _⟩
end Go.Proofs.Ytiealokabmjfjaa
