/- The contract of the reader's number. -/
import Derived.Test.YtebamnlknaoehaaRcE
namespace Go.Proofs.Ytebamnlknaoehaa
set_option linter.unusedVariables false
open Go.ChangeShapes Go.WideShapes Go.ChangeAt Go.RowKit

theorem fold_take {l : List UInt8} {k : Nat} {c : UInt8} (h : l[k]? = some c) : foldB (l.take (k + 1)) = foldB (l.take k) * 256 + c.toNat := by rw [take_at h, foldB_snoc]
theorem fold_small (l : List UInt8) (k : Nat) (h : k ≤ 7) : 0 ≤ foldB (l.take k) ∧ foldB (l.take k) < 256 ^ 7 := by
  have hr := foldB_range (l.take k).length (l.take k) rfl
  rw [List.length_take] at hr
  have h3 : ∀ a < 8, (256 : Int) ^ a ≤ 256 ^ 7 := by decide
  have := h3 (min k l.length) (by omega)
  omega
theorem numB_small (l : List UInt8) (k : Nat) (h : k ≤ 7) : numB (l.take k) = foldB (l.take k) := by
  have := fold_small l k h
  unfold numB
  rw [IntKind.wrap_i64]
  have h3 : (256 : Int) ^ 7 = 72057594037927936 := by decide
  omega
theorem wrap64_eq (z : Int) : wrap64 z = IntKind.i64.wrap z := by
  rw [IntKind.wrap_i64]
  unfold wrap64
  omega
theorem num_step {l : List UInt8} {k : Nat} {c : UInt8} (h : l[k]? = some c) (hk : k ≤ 7) : bits BinOp.or IntKind.i64 (IntKind.i64.wrap (numB (l.take k) * 256)) (c.toNat : Int) = numB (l.take (k + 1)) := by
  have := fold_small l k hk
  rw [numB_small l k hk, or64 _ c this.1 this.2, ← fold_take h]
  rfl
theorem drop_get {s : ByteArray} {a k : Nat} (h : a + k < s.size) : (s.data.toList.drop a)[k]? = some s[a + k] := by
  rw [List.getElem?_drop, List.getElem?_eq_getElem (by rw [str_len]; exact h)]
  rfl
set_option maxHeartbeats 1000000 in
theorem integer_c (g : Nat) (s : ByteArray) (a : Nat) (w : World) (h : RdAt w g s a 0) (ha : a ≤ s.size) (hm : s.size ≤ 4611686018427387904) :
    Calls Try.prog 58 #[.pointer (some ⟨g, 0, none⟩)] w (ReadsAs g s w (intG (s.data.toList.drop a))) := by
  have hgl := h.lt
  have hlen : (s.data.toList.drop a).length = s.size - a := by rw [List.length_drop, str_len]
  unfold intG
  by_cases hlt : a + 8 ≤ s.size
  · rw [if_neg (by omega)]
    obtain ⟨l, hl⟩ : ∃ l, Hid (s.data.toList.drop a = l) := ⟨_, rfl⟩
    have hd8 : Hid (l.drop 8 = s.data.toList.drop (a + 8)) := by show l.drop 8 = _; rw [← hl.out, List.drop_drop]
    rw [hl.out]
    have H0 := hide (fun (o : Obj) => (leaves_refl (h.alloc o)))
    generalize hgx : (if inN (numB (l.take 8)) = true then Got.val ⟨2, numB (l.take 8), .empty⟩ (l.drop 8) else Got.bad 2) = x
    have HGX := hide hgx
    clear h hlen hgx
    go_enter Try.func58, Try.ntmps58
    go_wp2_with fail
    go_loopw [3, 4] (fun z i wr => ∃ k : Nat, k ≤ 8 ∧ i = .int .i64 k ∧ z = .int .i64 (numB (l.take k)) ∧ Hid (Leaves g s ((a + k : Nat) : Int) 0 w wr ∧ VBox wr w.heap.size null)) (fun _ i _ => 8 - (intOf i).toNat)
    case atStart => exact ⟨0, Nat.zero_le _, rfl, rfl, ⟨(H0.out _).from, vbox_new w null⟩⟩
    case round =>
      obtain ⟨k, hk, rfl, rfl, HI⟩ := hrel
      by_cases hk8 : k < 8
      · have Q := hide (oct_ok g s (a + k) wr HI.out.1.1 (by omega) hm)
        have hgk : l[k]? = some (s[a + k]'(by omega)) := by rw [← hl.out]; exact drop_get (by omega)
        have HS := hide (num_step hgk (by omega))
        generalize (s[a + k]'(by omega)) = c at *
        clear hgk
        go_wp2_with fail
        refine Q.out.mono ?_
        rintro e w1 ⟨rfl, h1⟩
        have HI1 := hide (show Leaves g s ((a + (k + 1) : Nat) : Int) 0 w w1 ∧ VBox w1 w.heap.size null from ⟨HI.out.1.then h1, h1.box HI.out.2 (by omega)⟩)
        clear h1 Q HI
        go_wp2_with fail
        go_roundw
        case rel => exact ⟨k + 1, by omega, by go_num, by rw [← HS.out, wrap64_eq], HI1⟩
        case measure => simp [intOf]; omega
      · obtain rfl : k = 8 := by omega
        have Q := hide (fun W => numIn_c (numB (l.take 8)) W)
        have QN := hide (fun W => num_c (numB (l.take 8)) W)
        generalize numB (l.take 8) = z at *
        cases hb : inN z
        · rw [hb] at Q HGX
          have hx : Got.bad 2 = x := HGX.out
          subst hx
          have QF := hide (fail_yes g s _ 2 wr HI.out.1.1)
          clear hb
          go_wp2_with fail
          refine (Q.out _).mono ?_
          rintro e w1 ⟨rfl, rfl⟩
          go_wp2_with fail
          refine QF.out.mono ?_
          rintro e w2 ⟨rfl, h2⟩
          have HI2 := hide (show Leaves g s ((a + 8 : Nat) : Int) 2 w w2 ∧ VBox w2 w.heap.size null from ⟨HI.out.1.then h2, h2.box HI.out.2 (by omega)⟩)
          clear h2 QF HI
          go_wp2_with fail
          refine (QN.out _).mono ?_
          rintro e w3 ⟨rfl, hb3⟩
          have HL3 := hide (HI2.out.1.below hb3)
          have HX3 := hide (HI2.out.2.kept hb3)
          obtain ⟨k0, k1, k2, y0, y1, y2⟩ := HX3.out.all
          simp only [null] at k0 k1 k2
          unfold valAgg
          clear hb3 HI2
          go_wp2_with fail
          exact end_val Try.results58 rfl rfl (HX3.out.set3 2 z _) ⟨_, _, rfl, HL3.out.set3 (Nat.le_refl _) (by omega) _ _ _⟩
        · rw [hb] at Q HGX
          have hx : Got.val ⟨2, z, .empty⟩ (l.drop 8) = x := HGX.out
          subst hx
          clear hb
          go_wp2_with fail
          refine (Q.out _).mono ?_
          rintro e w1 ⟨rfl, rfl⟩
          go_wp2_with fail
          refine (QN.out _).mono ?_
          rintro e w3 ⟨rfl, hb3⟩
          have HL3 := hide (HI.out.1.below hb3)
          have HX3 := hide (HI.out.2.kept hb3)
          obtain ⟨k0, k1, k2, y0, y1, y2⟩ := HX3.out.all
          simp only [null] at k0 k1 k2
          unfold valAgg
          clear hb3 HI
          go_wp2_with fail
          exact end_val Try.results58 rfl rfl (HX3.out.set3 2 z _) ⟨_, rfl, HL3.out.set3 (Nat.le_refl _) (by omega) _ _ _, hd8.out.symm, hlt⟩
  · rw [if_pos (by omega)]
    have H0 := hide (fun (o : Obj) => (leaves_refl (h.alloc o)))
    clear h hlen
    go_enter Try.func58, Try.ntmps58
    go_wp2_with fail
    go_loopw [3, 4] (fun z i wr => ∃ (k : Nat) (y : Int), k ≤ 8 ∧ i = .int .i64 k ∧ z = .int .i64 y ∧ Hid (VBox wr w.heap.size null ∧ ((a + k ≤ s.size ∧ Leaves g s ((a + k : Nat) : Int) 0 w wr) ∨ ∃ a', Leaves g s a' 3 w wr))) (fun _ i _ => 8 - (intOf i).toNat)
    case atStart => exact ⟨0, 0, Nat.zero_le _, rfl, rfl, ⟨vbox_new w null, .inl ⟨ha, (H0.out _).from⟩⟩⟩
    case round =>
      obtain ⟨k, y, hk, rfl, rfl, HI⟩ := hrel
      by_cases hk8 : k < 8
      · have QX : ∃ z, Hid (∀ Q : Ending → World → Prop, (∀ w', VBox w' w.heap.size null → (((a + (k + 1) ≤ s.size ∧ Leaves g s ((a + (k + 1) : Nat) : Int) 0 w w') ∨ ∃ a', Leaves g s a' 3 w w')) → Q (.returned (.int .i64 z)) w') → Calls Try.prog 42 #[.pointer (some ⟨g, 0, none⟩)] wr Q) := by
          have HX := HI.out.1
          rcases HI.out.2 with ⟨h1, h2⟩ | ⟨a', h2⟩
          · by_cases hs : a + k < s.size
            · refine ⟨(s[a + k].toNat : Int), fun Q hQ => (oct_ok g s (a + k) wr h2.1 hs hm).mono ?_⟩
              rintro e w' ⟨rfl, h3⟩
              exact hQ w' (h3.box HX (by omega)) (.inl ⟨hs, h2.then h3⟩)
            · refine ⟨0, fun Q hQ => (oct_short g s (a + k) wr h2.1 (by omega)).mono ?_⟩
              rintro e w' ⟨rfl, h3⟩
              exact hQ w' (h3.box HX (by omega)) (.inr ⟨_, h2.then h3⟩)
          · refine ⟨0, fun Q hQ => (oct_err g s a' 3 wr h2.1 (by omega)).mono ?_⟩
            rintro e w' ⟨rfl, h3⟩
            exact hQ w' (h3.box HX (by omega)) (.inr ⟨_, h2.then h3⟩)
        obtain ⟨z, QX⟩ := QX
        go_wp2_with fail
        refine QX.out _ ?_
        intro w1 hx1 hr1
        have HI1 := hide (show VBox w1 w.heap.size null ∧ ((a + (k + 1) ≤ s.size ∧ Leaves g s ((a + (k + 1) : Nat) : Int) 0 w w1) ∨ ∃ a', Leaves g s a' 3 w w1) from ⟨hx1, hr1⟩)
        clear hx1 hr1 QX HI
        go_wp2_with fail
        go_roundw
        case rel => exact ⟨k + 1, _, by omega, by go_num, rfl, HI1⟩
        case measure => simp [intOf]; omega
      · obtain rfl : k = 8 := by omega
        have Q := hide (fun W => numIn_c y W)
        have QN := hide (fun W => num_c y W)
        have HE : Hid (∃ a', Leaves g s a' 3 w wr) := by
          rcases HI.out.2 with ⟨h1, _⟩ | h
          · omega
          · exact h
        have HX := hide HI.out.1
        obtain ⟨a', HE⟩ := HE
        have HE := hide HE
        have QF := hide (fail_no g s _ 3 2 wr HE.out.1 (by omega))
        clear HI
        cases hb : inN y
        · rw [hb] at Q
          clear hb
          go_wp2_with fail
          refine (Q.out _).mono ?_
          rintro e w1 ⟨rfl, rfl⟩
          go_wp2_with fail
          refine QF.out.mono ?_
          rintro e w2 ⟨rfl, h2⟩
          have HI2 := hide (show Leaves g s a' 3 w w2 ∧ VBox w2 w.heap.size null from ⟨HE.out.then h2, h2.box HX.out (by omega)⟩)
          clear h2 QF HE HX
          go_wp2_with fail
          refine (QN.out _).mono ?_
          rintro e w3 ⟨rfl, hb3⟩
          have HL3 := hide (HI2.out.1.below hb3)
          have HX3 := hide (HI2.out.2.kept hb3)
          obtain ⟨k0, k1, k2, y0, y1, y2⟩ := HX3.out.all
          simp only [null] at k0 k1 k2
          unfold valAgg
          clear hb3 HI2
          go_wp2_with fail
          exact end_val Try.results58 rfl rfl (HX3.out.set3 2 y _) ⟨_, _, rfl, HL3.out.set3 (Nat.le_refl _) (by omega) _ _ _⟩
        · rw [hb] at Q
          clear hb
          go_wp2_with fail
          refine (Q.out _).mono ?_
          rintro e w1 ⟨rfl, rfl⟩
          go_wp2_with fail
          refine (QN.out _).mono ?_
          rintro e w3 ⟨rfl, hb3⟩
          have HL3 := hide (HE.out.below hb3)
          have HX3 := hide (HX.out.kept hb3)
          obtain ⟨k0, k1, k2, y0, y1, y2⟩ := HX3.out.all
          simp only [null] at k0 k1 k2
          unfold valAgg
          clear hb3 HE HX
          go_wp2_with fail
          exact end_val Try.results58 rfl rfl (HX3.out.set3 2 y _) ⟨_, _, rfl, HL3.out.set3 (Nat.le_refl _) (by omega) _ _ _⟩
end Go.Proofs.Ytebamnlknaoehaa
