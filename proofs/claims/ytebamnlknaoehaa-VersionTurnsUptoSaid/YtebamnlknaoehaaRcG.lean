/- The contract of the reader's text. -/
import Derived.Test.YtebamnlknaoehaaRcF
import Derived.StillTailTactics
namespace Go.Proofs.Ytebamnlknaoehaa
set_option linter.unusedVariables false
open Go.ChangeShapes Go.WideShapes Go.ChangeAt Go.RowKit

/-- As far as the text has been read, all is well. -/
def TextOk (g : Nat) (s : ByteArray) (a k : Nat) (w w' : World) : Prop := a + k ≤ s.size ∧ ((s.data.toList.drop a).take k).all okByte = true ∧ Leaves g s ((a + k : Nat) : Int) 0 w w'
def TextBad (g : Nat) (s : ByteArray) (x : Got) (w w' : World) : Prop := ∃ a' e, e ≠ 0 ∧ x = .bad e ∧ Leaves g s a' e w w'
def TextFails (g : Nat) (s : ByteArray) (x : Got) (w w' : World) : Prop := ∃ a' e, ((e = 0 ∧ x = .bad 2) ∨ (e ≠ 0 ∧ x = .bad e)) ∧ Leaves g s a' e w w'
theorem fail_text {g : Nat} {s : ByteArray} {x : Got} {w w1 : World} (h : TextFails g s x w w1) :
    Calls Try.prog 43 #[.pointer (some ⟨g, 0, none⟩), .int .i64 2] w1 fun e w' => e = .returned (.tuple #[]) ∧ TextBad g s x w w' ∧ (∀ b v, b ≠ g → VBox w1 b v → VBox w' b v) := by
  obtain ⟨a', e, he, hL⟩ := h
  rcases he with ⟨rfl, hx⟩ | ⟨he, hx⟩
  · refine (fail_yes g s a' 2 w1 hL.1).mono ?_
    rintro e w' ⟨rfl, h2⟩
    exact ⟨rfl, ⟨a', 2, by omega, hx, hL.then h2⟩, fun b v hb hv => h2.box hv hb⟩
  · refine (fail_no g s a' e 2 w1 hL.1 he).mono ?_
    rintro e' w' ⟨rfl, h2⟩
    exact ⟨rfl, ⟨a', e, he, hx, hL.then h2⟩, fun b v hb hv => h2.box hv hb⟩
theorem text_end (s : ByteArray) (a z : Nat) (h : a + z ≤ s.size) (ho : ((s.data.toList.drop a).take z).all okByte = true) : textG z (s.data.toList.drop a) = .val ⟨3, 0, s.extract a (a + z)⟩ (s.data.toList.drop (a + z)) := by
  have hl := str_len s
  unfold textG
  rw [if_pos ho, if_neg (by rw [List.length_drop]; omega), List.drop_drop]
  have e : (⟨((s.data.toList.drop a).take z).toArray⟩ : ByteArray) = s.extract a (a + z) := by
    apply ByteArray.ext
    apply Array.ext'
    rw [ByteArray.data_extract, Array.toList_extract, List.extract_eq_take_drop, show a + z - a = z by omega]
  rw [e]
theorem text_short (s : ByteArray) (a k z : Nat) (h : s.size ≤ a + k) (hk : k < z) (ha : a ≤ s.size) (hak : a + k ≤ s.size) (ho : ((s.data.toList.drop a).take k).all okByte = true) : textG z (s.data.toList.drop a) = .bad 3 := by
  have hl := str_len s
  unfold textG
  rw [List.take_of_length_le (by rw [List.length_drop]; omega)] at ho
  rw [List.take_of_length_le (by rw [List.length_drop]; omega), if_pos ho, if_pos (by rw [List.length_drop]; omega)]
theorem text_wrong (s : ByteArray) (a k z : Nat) (h : a + k < s.size) (hk : k < z) (hc : okByte s[a + k] = false) : textG z (s.data.toList.drop a) = .bad 2 := by
  unfold textG
  rw [if_neg]
  intro ho
  have hm : s[a + k] ∈ (s.data.toList.drop a).take z := List.mem_of_getElem? (i := k) (by rw [List.getElem?_take_of_lt hk]; exact drop_get h)
  have := List.all_eq_true.1 ho _ hm
  rw [hc] at this
  cases this
theorem text_round {g : Nat} {s : ByteArray} {a k z : Nat} {x : Got} {w wr : World} (hm : s.size ≤ 4611686018427387904) (hgl : g < w.heap.size) (ha : a ≤ s.size) (hk : k < z) (hx : textG z (s.data.toList.drop a) = x)
    (hX : VBox wr w.heap.size null) (h : TextOk g s a k w wr ∨ TextBad g s x w wr) :
    (∃ c : Nat, 32 ≤ c ∧ c ≤ 126 ∧ ∀ Q : Ending → World → Prop, (∀ w', VBox w' w.heap.size null → TextOk g s a (k + 1) w w' → Q (.returned (.int .i64 (c : Int))) w') → Calls Try.prog 42 #[.pointer (some ⟨g, 0, none⟩)] wr Q) ∨
    (∃ c : Nat, (c < 32 ∨ (32 ≤ c ∧ 126 < c)) ∧ ∀ Q : Ending → World → Prop, (∀ w', VBox w' w.heap.size null → TextFails g s x w w' → Q (.returned (.int .i64 (c : Int))) w') → Calls Try.prog 42 #[.pointer (some ⟨g, 0, none⟩)] wr Q) := by
  rcases h with ⟨h1, h2, h3⟩ | ⟨a', e, he, hxe, hL⟩
  · by_cases hs : a + k < s.size
    · rcases okByte_cases s[a + k] with ⟨o1, o2, o3⟩ | ⟨o1, o2⟩ | ⟨o1, o2, o3⟩
      · left
        refine ⟨s[a + k].toNat, by omega, by omega, fun Q hQ => (oct_ok g s (a + k) wr h3.1 hs hm).mono ?_⟩
        rintro e w' ⟨rfl, h4⟩
        refine hQ w' (h4.box hX (by omega)) ⟨hs, ?_, h3.then h4⟩
        rw [take_at (drop_get hs), List.all_append, h2]
        simp [o1]
      · right
        refine ⟨s[a + k].toNat, by omega, fun Q hQ => (oct_ok g s (a + k) wr h3.1 hs hm).mono ?_⟩
        rintro e w' ⟨rfl, h4⟩
        exact hQ w' (h4.box hX (by omega)) ⟨_, 0, .inl ⟨rfl, by rw [← hx, text_wrong s a k z hs hk o1]⟩, h3.then h4⟩
      · right
        refine ⟨s[a + k].toNat, by omega, fun Q hQ => (oct_ok g s (a + k) wr h3.1 hs hm).mono ?_⟩
        rintro e w' ⟨rfl, h4⟩
        exact hQ w' (h4.box hX (by omega)) ⟨_, 0, .inl ⟨rfl, by rw [← hx, text_wrong s a k z hs hk o1]⟩, h3.then h4⟩
    · right
      refine ⟨0, by omega, fun Q hQ => (oct_short g s (a + k) wr h3.1 (by omega)).mono ?_⟩
      rintro e w' ⟨rfl, h4⟩
      exact hQ w' (h4.box hX (by omega)) ⟨_, 3, .inr ⟨by omega, by rw [← hx, text_short s a k z (by omega) hk ha h1 h2]⟩, h3.then h4⟩
  · right
    refine ⟨0, by omega, fun Q hQ => (oct_err g s a' e wr hL.1 he).mono ?_⟩
    rintro e' w' ⟨rfl, h4⟩
    exact hQ w' (h4.box hX (by omega)) ⟨_, e, .inr ⟨he, hxe⟩, hL.then h4⟩
set_option maxRecDepth 100000 in
set_option maxHeartbeats 1000000 in
theorem text_c (g : Nat) (s : ByteArray) (a : Nat) (w : World) (h : RdAt w g s a 0) (ha : a ≤ s.size) (hm : s.size ≤ 4611686018427387904) :
    Calls Try.prog 59 #[.pointer (some ⟨g, 0, none⟩)] w (ReadsAs g s w (strG (s.data.toList.drop a))) := by
  have hgl := h.lt
  by_cases hlt : a < s.size
  · have Q := hide (fun (o : Obj) => oct_ok g s a (w.alloc o) (h.alloc o) hlt hm)
    have hc := s[a].toNat_lt
    rw [drop_str hlt, strG_cons]
    generalize s[a].toNat = z at *
    by_cases hb : z ≤ 100
    · rw [if_pos hb]
      generalize hgx : textG z (s.data.toList.drop (a + 1)) = x
      have HGX := hide hgx
      clear h hgx
      go_enter Try.func59, Try.ntmps59
      go_wp2_with fail
      refine (Q.out _).mono ?_
      rintro e w1 ⟨rfl, h1⟩
      obtain ⟨c0, c1, c2, z1, z2⟩ := h1.1.cells
      have HX := hide (h1.box (vbox_new w null) (by omega))
      have H1 := hide h1.from
      clear h1 Q
      go_wp2_with fail
      go_loopw [18] (fun i wr => ∃ k : Nat, k ≤ z ∧ i = .int .i64 k ∧ Hid (VBox wr w.heap.size null ∧ (TextOk g s (a + 1) k w wr ∨ TextBad g s x w wr))) (fun i _ => z - (intOf i).toNat)
      case atStart => exact ⟨0, Nat.zero_le _, rfl, ⟨HX.out, .inl ⟨hlt, rfl, H1.out⟩⟩⟩
      case round =>
        obtain ⟨k, hk, rfl, HI⟩ := hrel
        by_cases hkz : k < z
        · rcases text_round hm hgl hlt hkz HGX.out HI.out.1 HI.out.2 with ⟨c, hc1, hc2, q⟩ | ⟨c, hc1, q⟩
          · have Q := hide q
            clear q HI c0 c1 c2 z1 z2
            go_wp2_with fail
            refine Q.out _ ?_
            intro w2 hx2 ho2
            have HI2 := hide (show VBox w2 w.heap.size null ∧ (TextOk g s (a + 1) (k + 1) w w2 ∨ TextBad g s x w w2) from ⟨hx2, .inl ho2⟩)
            clear hx2 ho2 Q
            go_wp2_with fail
            go_roundw
            case rel => exact ⟨k + 1, by omega, by go_num, HI2⟩
            case measure => simp [intOf]; omega
          · have Q := hide q
            clear q HI c0 c1 c2 z1 z2
            rcases hc1 with hc1 | ⟨hc1, hc2⟩
            all_goals
              go_wp2_with fail
              refine Q.out _ ?_
              intro w2 hx2 ho2
              have HX2 := hide hx2
              have Q2 := hide (fail_text ho2)
              clear hx2 ho2 Q
              go_wp2_with fail
              refine Q2.out.mono ?_
              rintro e w3 ⟨rfl, hb3, hx3⟩
              have HI3 := hide (show VBox w3 w.heap.size null ∧ (TextOk g s (a + 1) (k + 1) w w3 ∨ TextBad g s x w w3) from ⟨hx3 _ _ (by omega) HX2.out, .inr hb3⟩)
              clear hb3 hx3 Q2 HX2
              go_wp2_with fail
              go_roundw
              case rel => exact ⟨k + 1, by omega, by go_num, HI3⟩
              case measure => simp [intOf]; omega
        · obtain rfl : k = z := by omega
          rcases HI.out.2 with ⟨h1, h2, h3⟩ | ⟨a', e, he, hxe, hL⟩
          · obtain ⟨c0, c1, c2, z1, z2⟩ := h3.1.cells
            have HX := hide HI.out.1
            have H3 := hide h3
            have hxe : x = .val ⟨3, 0, s.extract (a + 1) (a + 1 + k)⟩ (s.data.toList.drop (a + 1 + k)) := by rw [← HGX.out]; exact text_end s (a + 1) k h1 h2
            subst hxe
            have QN := hide (fun W => str_c (s.extract (a + 1) (a + 1 + k)) W)
            clear HI h2 h3 HGX
            go_wp2_with fail
            have hsl : ∀ W, (Instr.slice 9 (.string s) (some (.int .i64 ((a : Int) + 1))) (some (.int .i64 ((a : Int) + 1 + k))) none).run Try.prog W = .ok (.string (s.extract (a + 1) (a + 1 + k))) W := fun W => by
              rw [run_slice_string (P := Try.prog) W 9 s .i64 .i64 ((a : Int) + 1) ((a : Int) + 1 + k) Try.underlying9 (by omega) (by omega) (by omega)]
              have e1 : ((a : Int) + 1).toNat = a + 1 := by omega
              have e2 : ((a : Int) + 1 + k).toNat = a + 1 + k := by omega
              rw [e1, e2]
            go_still_tail 10, (by kernel_rfl)
            go_wp2_with fail
            refine (QN.out _).mono ?_
            rintro e w3 ⟨rfl, hb3⟩
            have HL3 := hide ((H3.out.drew).below hb3)
            have HX3 := hide (VBox.kept (show VBox wr.drew w.heap.size null from HX.out) hb3)
            obtain ⟨k0, k1, k2, y0, y1, y2⟩ := HX3.out.all
            simp only [null] at k0 k1 k2
            unfold valAgg
            clear hb3 hsl QN c0 c1 c2 z1 z2
            go_wp2_with fail
            exact end_val Try.results59 rfl rfl (HX3.out.set3 3 0 _) ⟨_, rfl, HL3.out.set3 (Nat.le_refl _) (by omega) _ _ _, rfl, h1⟩
          · obtain ⟨c0, c1, c2, z1, z2⟩ := hL.1.cells
            obtain ⟨k0, k1, k2, y0, y1, y2⟩ := HI.out.1.all
            simp only [null] at k0 k1 k2
            have HX := hide HI.out.1
            have HL := hide hL
            subst hxe
            have he2 : (e == 0) = false := by simpa using he
            clear HI hL HGX
            go_wp2_with fail
            exact end_val Try.results59 rfl rfl (HX.out.set3 0 0 _) ⟨_, _, rfl, HL.out.set3 (Nat.le_refl _) (by omega) _ _ _⟩
    · rw [if_neg hb]
      clear h
      go_enter Try.func59, Try.ntmps59
      go_wp2_with fail
      refine (Q.out _).mono ?_
      rintro e w1 ⟨rfl, h1⟩
      have HX := hide (h1.box (vbox_new w null) (by omega))
      have H1 := hide h1.from
      have Q2 := hide (fail_yes g s _ 2 w1 h1.1)
      clear h1 Q
      go_wp2_with fail
      refine Q2.out.mono ?_
      rintro e w2 ⟨rfl, h2⟩
      have HX2 := hide (h2.box HX.out (by omega))
      obtain ⟨k0, k1, k2, y0, y1, y2⟩ := HX2.out.all
      simp only [null] at k0 k1 k2
      have H2 := hide (H1.out.then h2)
      clear h2 Q2 H1
      go_wp2_with fail
      exact end_val Try.results59 rfl rfl (HX2.out.set3 0 0 _) ⟨_, _, rfl, H2.out.set3 (Nat.le_refl _) (by omega) _ _ _⟩
  · have Q := hide (fun (o : Obj) => oct_short g s a (w.alloc o) (h.alloc o) (by omega))
    rw [drop_end (by omega)]
    clear h
    go_enter Try.func59, Try.ntmps59
    go_wp2_with fail
    refine (Q.out _).mono ?_
    rintro e w1 ⟨rfl, h1⟩
    obtain ⟨c0, c1, c2, z1, z2⟩ := h1.1.cells
    obtain ⟨k0, k1, k2, y0, y1, y2⟩ := (h1.box (vbox_new w null) (by omega)).all
    simp only [null] at k0 k1 k2
    have HX := hide (h1.box (vbox_new w null) (by omega))
    have H1 := hide h1.from
    clear h1 Q
    go_wp2_with fail
    refine wp_loop_rounds 2 ?_
    rw [rounds_succ]
    go_wp2_with fail
    exact end_val Try.results59 rfl rfl (HX.out.set3 0 0 _) ⟨_, _, rfl, H1.out.set3 (Nat.le_refl _) (by omega) _ _ _⟩
end Go.Proofs.Ytebamnlknaoehaa
